/- Layer 29: what is said of a column; shares of pairs and of marks: by the document. Condition: no more than a million columns and marks, what is said in memory that is there. -/
import Derived.Test.YtbglmcebkpkccaaGreatDoorQKB
import Derived.Test.YtbglmcebkpkccaaGreatDoorQKF
import Derived.Test.YtbglmcebkpkccaaGreatDoorQT2
import Derived.Deep.DeepCutAuto

/- Layer 29: the share of rows for which an expression may be true, as a function. No condition. -/
namespace Go.Proofs.YtbglmcebkpkccaaGreatDoor
open Go.RowKit

def halfB : Nat := 4602678819172646912
def rowsK (sd : List Sst) (t : Int) : Int := if 0 ≤ t ∧ t < sd.length then (sd.getD t.toNat default).rows else 0
def colK (sd : List Sst) (t c : Int) : Cst := if 0 ≤ t ∧ t < sd.length then colI (sd.getD t.toNat default).cols c else default
def sameK (sd : List Sst) (t c u d : Int) : Nat := ofB 1 (max (colK sd t c).u (colK sd u d).u)
def upToN (m : List Int) (n : Int) : Nat := m.countP fun x => decide (x ≤ n)
def belowK (m : List Int) (n : Int) : Nat := ofB (belowN m n) m.length
def upToK (m : List Int) (n : Int) : Nat := ofB (upToN m n) m.length
def signK (op : Int) (x : Cst) (n : Int) : Nat :=
  if op = 1 then ofB 1 x.u else if op = 2 then notB (ofB 1 x.u) else if op = 3 then belowK x.m n else if op = 4 then upToK x.m n else if op = 5 then notB (upToK x.m n) else notB (belowK x.m n)
def fillK (sd : List Sst) (t c : Int) : Nat := ofB (rowsK sd t - (colK sd t c).n) (rowsK sd t)
def numK (sd : List Sst) (op t c n : Int) : Nat := andF [fillK sd t c, signK op (colK sd t c) n] 4607182418800017408
def turnK (op : Int) : Int := if op = 3 then 5 else if op = 4 then 6 else if op = 5 then 3 else if op = 6 then 4 else op
def isNum (e : Ex) : Bool := decide (e.op = 16) && decide (e.vk = 1)
def cmpK (sd : List Sst) (op : Int) (a b : Ex) : Nat :=
  if a.op = 15 ∧ isNum b = true then numK sd op a.t a.c b.vi else if isNum a = true ∧ b.op = 15 then numK sd (turnK op) b.t b.c a.vi else if op = 1 ∧ a.op = 15 ∧ b.op = 15 then sameK sd a.t a.c b.t b.c else halfB
def nullK (sd : List Sst) (a : Ex) : Nat := ofB (colK sd a.t a.c).n (rowsK sd a.t)
def shareK (sd : List Sst) : Ex → Nat
  | .mk op _ _ _ _ _ _ _ l => match l with
    | [a] => if op = 12 then notB (shareK sd a) else if a.op = 15 then (if op = 13 then nullK sd a else if op = 14 then notB (nullK sd a) else halfB) else halfB
    | [a, b] => if op = 10 then andF [shareK sd a, shareK sd b] 4607182418800017408 else if op = 11 then orB (shareK sd a) (shareK sd b) else if 1 ≤ op ∧ op ≤ 6 then cmpK sd op a b else halfB
    | _ => halfB
termination_by e => SizeOf.sizeOf e
decreasing_by all_goals (simp; omega)
def oneK (sd : List Sst) (op : Int) (a : Ex) : Nat := if op = 12 then notB (shareK sd a) else if a.op = 15 then (if op = 13 then nullK sd a else if op = 14 then notB (nullK sd a) else halfB) else halfB
def twoK (sd : List Sst) (op : Int) (a b : Ex) : Nat := if op = 10 then andF [shareK sd a, shareK sd b] 4607182418800017408 else if op = 11 then orB (shareK sd a) (shareK sd b) else if 1 ≤ op ∧ op ≤ 6 then cmpK sd op a b else halfB
theorem shareK_one {sd : List Sst} {x a : Ex} (h : x.l = [a]) : shareK sd x = oneK sd x.op a := by
  obtain ⟨op, tab, name, t, c, vk, vi, vs, l⟩ := x
  simp only [Ex.l] at h
  subst h
  rw [shareK.eq_def]
  rfl
theorem shareK_two {sd : List Sst} {x a b : Ex} (h : x.l = [a, b]) : shareK sd x = twoK sd x.op a b := by
  obtain ⟨op, tab, name, t, c, vk, vi, vs, l⟩ := x
  simp only [Ex.l] at h
  subst h
  rw [shareK.eq_def]
  rfl
theorem shareK_else {sd : List Sst} {x : Ex} (h1 : x.l.length ≠ 1) (h2 : x.l.length ≠ 2) : shareK sd x = halfB := by
  obtain ⟨op, tab, name, t, c, vk, vi, vs, l⟩ := x
  simp only [Ex.l] at h1 h2
  rw [shareK.eq_def]
  match l, h1, h2 with
  | [], _, _ => rfl
  | [a], h1, _ => exact absurd rfl h1
  | [a, b], _, h2 => exact absurd rfl h2
  | a :: b :: c :: l, _, _ => rfl
theorem half_le : halfB ≤ 4607182418800017408 := by decide
theorem orB_le (a b : Nat) : orB a b ≤ 4607182418800017408 := cleanB_le _
theorem notB_le (a : Nat) : notB a ≤ 4607182418800017408 := (notB_is a).2
theorem andK_le (l : List Nat) : andF l 4607182418800017408 ≤ 4607182418800017408 := andF_le l _ (Nat.le_refl _)
theorem signK_le (op : Int) (x : Cst) (n : Int) : signK op x n ≤ 4607182418800017408 := by
  unfold signK belowK upToK
  repeat' split
  all_goals first | exact ofB_le _ _ | exact notB_le _
theorem cmpK_le (sd : List Sst) (op : Int) (a b : Ex) : cmpK sd op a b ≤ 4607182418800017408 := by
  unfold cmpK numK sameK
  repeat' split
  all_goals first | exact ofB_le _ _ | exact andK_le _ | exact half_le
theorem oneK_le (sd : List Sst) (op : Int) (a : Ex) : oneK sd op a ≤ 4607182418800017408 := by
  unfold oneK nullK
  repeat' split
  all_goals first | exact ofB_le _ _ | exact notB_le _ | exact half_le
theorem twoK_le (sd : List Sst) (op : Int) (a b : Ex) : twoK sd op a b ≤ 4607182418800017408 := by
  unfold twoK
  repeat' split
  all_goals first | exact cmpK_le _ _ _ _ | exact andK_le _ | exact orB_le _ _ | exact half_le
theorem shareK_le (sd : List Sst) (x : Ex) : shareK sd x ≤ 4607182418800017408 := by
  by_cases h1 : x.l.length = 1
  · obtain ⟨a, h⟩ := List.length_eq_one_iff.1 h1
    rw [shareK_one h]
    exact oneK_le _ _ _
  · by_cases h2 : x.l.length = 2
    · obtain ⟨a, b, h⟩ : ∃ a b, x.l = [a, b] := by
        match x.l, h2 with
        | [a, b], _ => exact ⟨a, b, rfl⟩
      rw [shareK_two h]
      exact twoK_le _ _ _ _
    · rw [shareK_else h1 h2]
      exact half_le
/-- What is said, as it may be. -/
def OkS (s : Sst) : Prop := (0 ≤ s.rows ∧ s.rows ≤ 4611686018427387904) ∧ ∀ c ∈ s.cols, (0 ≤ c.n ∧ c.n ≤ s.rows) ∧ (0 ≤ c.u ∧ c.u ≤ s.rows) ∧ c.m.length ≤ 9
def OkSd (sd : List Sst) : Prop := ∀ s ∈ sd, OkS s
theorem heldS_ok (s : Sst) (k : Int) : OkS (heldS s k) := by
  have h1 := cutI_s s.rows
  unfold sI at h1
  refine ⟨h1, fun c hc => ?_⟩
  change c ∈ heldP s (heldN k) at hc
  unfold heldP at hc
  obtain ⟨i, _, rfl⟩ := List.mem_map.1 hc
  have h2 := nearI_in (n := (colAt s i).n) h1.1
  have h3 := nearI_in (n := (colAt s i).u) (high := cutI s.rows - nearI (colAt s i).n (cutI s.rows)) (by omega)
  refine ⟨h2, ⟨h3.1, ?_⟩, ?_⟩
  · show nearI (colAt s i).u (cutI s.rows - nearI (colAt s i).n (cutI s.rows)) ≤ cutI s.rows
    omega
  · show (sortI ((colAt s i).m.take 9)).length ≤ 9
    rw [sortI_len, List.length_take]
    omega
theorem colI_ok {s : Sst} (h : OkS s) (c : Int) : (0 ≤ (colI s.cols c).n ∧ (colI s.cols c).n ≤ s.rows) ∧ (0 ≤ (colI s.cols c).u ∧ (colI s.cols c).u ≤ s.rows) ∧ (colI s.cols c).m.length ≤ 9 := by
  have hd : (0 ≤ (default : Cst).n ∧ (default : Cst).n ≤ s.rows) ∧ (0 ≤ (default : Cst).u ∧ (default : Cst).u ≤ s.rows) ∧ (default : Cst).m.length ≤ 9 := ⟨⟨Int.le_refl _, h.1.1⟩, ⟨Int.le_refl _, h.1.1⟩, Nat.zero_le _⟩
  unfold colI
  split
  · rw [List.getD_eq_getElem?_getD]
    cases hx : s.cols[c.toNat]? with
    | none => exact hd
    | some x => exact h.2 x (List.mem_of_getElem? hx)
  · exact hd
theorem colK_ok {sd : List Sst} (h : OkSd sd) (t c : Int) : (0 ≤ rowsK sd t ∧ rowsK sd t ≤ 4611686018427387904) ∧ (0 ≤ (colK sd t c).n ∧ (colK sd t c).n ≤ rowsK sd t) ∧ (0 ≤ (colK sd t c).u ∧ (colK sd t c).u ≤ rowsK sd t) ∧ (colK sd t c).m.length ≤ 9 := by
  unfold colK rowsK
  by_cases hc : 0 ≤ t ∧ t < sd.length
  · rw [if_pos hc, if_pos hc]
    have ht : t.toNat < sd.length := by omega
    have hm : sd.getD t.toNat default ∈ sd := by
      rw [List.getD_eq_getElem?_getD, List.getElem?_eq_getElem ht]
      exact List.getElem_mem ht
    have hs := h _ hm
    exact ⟨hs.1, colI_ok hs c⟩
  · rw [if_neg hc, if_neg hc]
    exact ⟨⟨Int.le_refl _, by omega⟩, ⟨Int.le_refl _, Int.le_refl _⟩, ⟨Int.le_refl _, Int.le_refl _⟩, Nat.zero_le _⟩
theorem upToN_le (m : List Int) (n : Int) : upToN m n ≤ m.length := List.countP_le_length
theorem upToN_succ {l : List Int} {j : Nat} (h : j < l.length) (n : Int) : upToN (l.take (j + 1)) n = upToN (l.take j) n + if l[j] ≤ n then 1 else 0 := by
  unfold upToN
  rw [List.take_succ_eq_append_getElem h, List.countP_append]
  by_cases hx : l[j] ≤ n <;> simp [hx]
/-- What is said of tables, in memory. -/
def SstR (R : Rw) (s : Sst) (cs : List Value) : Prop := ∃ A k, cs = [.int .i64 s.rows, .slice A s.cols.length k] ∧ CstsR R A s.cols
def SstsR (R : Rw) (A : Option Addr) (l : List Sst) : Prop := ∃ css, ListR (SstR R) 2 l css ∧ R 58 A css.flatten
theorem SstR.imp {R R' : Rw} {s : Sst} {cs : List Value} (h : SstR R s cs) (H : ∀ e A xs, R e A xs → R' e A xs) : SstR R' s cs := by
  obtain ⟨A, k, e, hx⟩ := h
  exact ⟨A, k, e, hx.imp H⟩
theorem SstsR.imp {R R' : Rw} {A : Option Addr} {l : List Sst} (h : SstsR R A l) (H : ∀ e A xs, R e A xs → R' e A xs) : SstsR R' A l := by
  obtain ⟨css, h1, h2⟩ := h
  exact ⟨css, h1.map fun x cs hx => hx.imp H, H _ _ _ h2⟩
theorem SstsR.grew {w w' : World} {A : Option Addr} {l : List Sst} (h : SstsR (PRow w) A l) (g : Grew w w') : SstsR (PRow w') A l := h.imp fun _ _ _ hx => Row.grew hx g
theorem sstsR_at {w : World} {A : Option Addr} {l : List Sst} (h : SstsR (PRow w) A l) {i : Nat} (hi : i < l.length) :
    ∃ b o B k, A = some ⟨b, o, none⟩ ∧ b < w.heap.size ∧ w.cell? ⟨b, o + i * 2, none⟩ = some (.int .i64 l[i].rows) ∧ w.cell? ⟨b, o + i * 2 + 1, none⟩ = some (.slice B l[i].cols.length k) ∧ CstsR (PRow w) B l[i].cols := by
  obtain ⟨css, h1, h2⟩ := h
  obtain ⟨b, o, cs, hA, hb, hr, _, hc⟩ := h1.at_ h2 (by decide) hi
  obtain ⟨B, k, rfl, hx⟩ := hr
  exact ⟨b, o, B, k, hA, hb, hc 0 _ rfl, hc 1 _ rfl, hx⟩
theorem fldC0 (a b : Int) (A : Option Addr) (n k : Nat) (w : World) : Sem.run Tryz.prog (Instr.field 109 (.agg #[.int .i64 a, .int .i64 b, .slice A n k]) 0) w = .ok (.int .i64 a) w := by kernel_rfl
theorem fldC1 (a b : Int) (A : Option Addr) (n k : Nat) (w : World) : Sem.run Tryz.prog (Instr.field 109 (.agg #[.int .i64 a, .int .i64 b, .slice A n k]) 1) w = .ok (.int .i64 b) w := by kernel_rfl
theorem fldS0 (a : Int) (A : Option Addr) (n k : Nat) (w : World) : Sem.run Tryz.prog (Instr.field 58 (.agg #[.int .i64 a, .slice A n k]) 0) w = .ok (.int .i64 a) w := by kernel_rfl
end Go.Proofs.YtbglmcebkpkccaaGreatDoor

/- Layer 29: what is held of anything that is said, by the program, in new memory alone. Condition: no more than a million marks a column. -/
namespace Go.Proofs.YtbglmcebkpkccaaGreatDoor
open Go.RowKit
attribute [local go_sem] more_cell more_frozen more_more more_setCell more_of_drew more_of_drewN lt_more le_more past_cell past_cell2 past_frozen past_frozen2 past_setCell past_setCell2 mid_cell mid_frozen mid_setCell
attribute [local go_sem ↓] Go.wp_at_zero Go.wp_at_succ

/-- What is handed back of a table. -/
def HelkF (w : World) (s : Sst) (e : Ending) (w' : World) : Prop := ∃ B j, e = .returned (.agg #[.int .i64 s.rows, .slice B s.cols.length j]) ∧ Grew w w' ∧ CstsR (TRow w.heap.size w') B s.cols
/-- Columns are gathered in a struct of one's own. -/
structure HelkI (u : World) (g0 g4 g5 : Nat) (c0 c4 : Array Value) (s : Sst) (i : Nat) (A : Option Addr) (c : Nat) (css : List (List Value)) (wr : World) : Prop where
  grew : Grew u wr
  b0 : Blok wr g0 58 c0
  b4 : Blok wr g4 58 c4
  b5 : Blok wr g5 58 #[.int .i64 (cutI s.rows), .slice A i c]
  own : wr.ownsRow (g5 + 1) 109 3 (.slice A i c) i css.flatten
  rows : ListR (CstR (TRow u.heap.size wr)) 3 (heldP s i) css
theorem HelkI.on {u : World} {g0 g4 g5 : Nat} {c0 c4 : Array Value} {s : Sst} {i : Nat} {A : Option Addr} {c : Nat} {css : List (List Value)} {wr w' : World} (h : HelkI u g0 g4 g5 c0 c4 s i A c css wr) (k : Grew wr w') : HelkI u g0 g4 g5 c0 c4 s i A c css w' := by
  obtain ⟨x, rfl⟩ := k
  exact ⟨h.grew.more x, h.b0.more x, h.b4.more x, h.b5.more x, own_more h.own x, h.rows.map fun y cs hy => hy.imp fun A xs hm => hm.grew ⟨x, rfl⟩⟩
theorem HelkI.snoc {u : World} {g0 g4 g5 : Nat} {c0 c4 : Array Value} {s : Sst} {i : Nat} {A A' : Option Addr} {c c' : Nat} {css : List (List Value)} {cs : List Value} {wr w' : World} (h : HelkI u g0 g4 g5 c0 c4 s i A c css wr)
    (hu : u.heap.size ≤ g5) (h0 : g0 < g5) (h4 : g4 < g5) (hx : CstR (TRow u.heap.size wr) (heldC (cutI s.rows) (colAt s i)) cs)
    (ho : w'.ownsRow (g5 + 1) 109 3 (.slice A' (i + 1) c') (i + 1) (css.flatten ++ cs)) (hb : wr.grownBy w' (Value.slice A i c).ownBlock) :
    HelkI u g0 g4 g5 c0 c4 s (i + 1) A' c' (css ++ [cs]) (w'.setCell ⟨g5, 1, none⟩ (.slice A' (i + 1) c')) := by
  have hrow : ∀ k, (Value.slice A i c).ownBlock = some k → g5 + 1 ≤ k := own_base h.own
  have hg : Grew u w' := h.grew.grown hb fun k hk => by have := hrow k hk; omega
  have b0 := h.b0.grown hb (fun e => by have := hrow _ e; omega)
  have b4 := h.b4.grown hb (fun e => by have := hrow _ e; omega)
  have b5 := h.b5.grown hb (fun e => by have := hrow _ e; omega)
  have hlen : cs.length = 3 := by obtain ⟨_, _, rfl, _⟩ := hx; rfl
  have H : ∀ B xs, TRow u.heap.size wr 3 B xs → TRow u.heap.size (w'.setCell ⟨g5, 1, none⟩ (.slice A' (i + 1) c')) 3 B xs := fun B xs hm => (hm.grown h.own neCS hb).apart ((Turns.refl _ _).set _ _) b5 neST
  refine ⟨hg.setCell (a := ⟨g5, 1, none⟩) hu _, b0.far (by show g0 ≠ g5; omega) _, b4.far (by show g4 ≠ g5; omega) _, ?_, ?_, ?_⟩
  · have := b5.set 1 (.slice A' (i + 1) c')
    simpa using this
  · rw [List.flatten_append]
    simp only [List.flatten_cons, List.flatten_nil, List.append_nil]
    exact ownsRow_setCell_below ho (a := ⟨g5, 1, none⟩) (Nat.lt_succ_self _) _
  · rw [heldP_snoc]
    exact (h.rows.map fun y ds hy => hy.imp H).snoc (hx.imp H) hlen
def HelkAt (u : World) (g0 g4 g5 : Nat) (c0 c4 : Array Value) (s : Sst) (N : Nat) (v : Value) (wr : World) : Prop := ∃ (i : Nat) (A : Option Addr) (c : Nat) (css : List (List Value)), i ≤ N ∧ v = .int .i64 i ∧ HelkI u g0 g4 g5 c0 c4 s i A c css wr
theorem HelkI.res {u : World} {g0 g4 g5 : Nat} {c0 c4 : Array Value} {s : Sst} {i : Nat} {A : Option Addr} {c : Nat} {css : List (List Value)} {wr : World} (h : HelkI u g0 g4 g5 c0 c4 s i A c css wr) (hu : u.heap.size ≤ g4) (h4 : g4 < g5) (v0 v1 : Value) :
    Grew u ((wr.setCell ⟨g4, 0, none⟩ v0).setCell ⟨g4, 1, none⟩ v1) ∧ CstsR (TRow u.heap.size ((wr.setCell ⟨g4, 0, none⟩ v0).setCell ⟨g4, 1, none⟩ v1)) A (heldP s i) := by
  have hg : Grew u ((wr.setCell ⟨g4, 0, none⟩ v0).setCell ⟨g4, 1, none⟩ v1) := Grew.setCell (Grew.setCell h.grew (a := ⟨g4, 0, none⟩) hu _) (a := ⟨g4, 1, none⟩) hu _
  have ho := ownsRow_setCell_below (ownsRow_setCell_below h.own (a := ⟨g4, 0, none⟩) (by show g4 < _; omega) v0) (a := ⟨g4, 1, none⟩) (by show g4 < _; omega) v1
  have k := ((Turns.refl wr g4).set 0 v0).set 1 v1
  exact ⟨hg, css, h.rows.map fun y cs hy => hy.imp fun B xs hm => hm.apart k h.b4 neST, TRow.own (own_le ho (by omega))⟩
set_option maxHeartbeats 4000000 in
set_option maxRecDepth 100000 in
theorem kheld27_any (s : Sst) (A : Option Addr) (k : Nat) (cols : Int) (hm : ∀ x ∈ s.cols, x.m.length ≤ 1000000) (w : World) (ra : CstsR (PRow w) A s.cols) :
    Calls Tryz.prog 76 #[.agg #[.int .i64 s.rows, .slice A s.cols.length k], .int .i64 cols] w (HelkF w (heldS s cols)) := by
  have HCol : Hid (∀ (i : Nat) W, Grew w W → Calls Tryz.prog 105 #[.agg #[.int .i64 s.rows, .slice A s.cols.length k], .int .i64 i] W (ColF W (colAt s i))) := Lib.hid fun i W hW => by
    rw [← colI_at]
    exact col_any s.rows s.cols A k i hm W (ra.grew hW)
  have HMl : Hid (∀ i, (colAt s i).m.length ≤ 1000000) := Lib.hid fun i => by
    unfold colAt
    rw [List.getD_eq_getElem?_getD]
    cases h : s.cols[i]? with
    | none => exact Nat.zero_le _
    | some x => exact hm x (List.mem_of_getElem? h)
  have HS0 : Hid (0 ≤ cutI s.rows) := Lib.hid (cutI_s s.rows).1
  have HFin : Hid (∀ B j W, Grew w W → CstsR (TRow w.heap.size W) B (heldP s (heldN cols)) → HelkF w (heldS s cols) (.returned (.agg #[.int .i64 (cutI s.rows), .slice B (heldN cols) j])) W) := Lib.hid fun B j W hW hR => ⟨B, j, by show _ = Ending.returned (.agg #[.int .i64 (cutI s.rows), .slice B (heldP s (heldN cols)).length j]); rw [heldP_len], hW, hR⟩
  have hN := heldN_le cols
  have eN : min (16 : Int) (max 0 cols) = (heldN cols : Int) := by
    rw [near_min _ _ (by decide)]
    unfold heldN
    have := nearI_in (n := cols) (high := 16) (by decide)
    omega
  obtain ⟨mx, hmx⟩ : ∃ mx, max (0 : Int) cols = mx := ⟨_, rfl⟩
  rw [hmx] at eN
  clear hm ra
  generalize hNN : heldN cols = N at *
  clear hNN
  generalize HelkF w (heldS s cols) = F at *
  obtain ⟨W0, hW0⟩ : ∃ W0, W0 = ((w.alloc (.cells #[.int .i64 s.rows, .slice A s.cols.length k] 58)).alloc (.cells #[.int .i64 0, .slice none 0 0] 58)).alloc (.cells #[.int .i64 (cutI s.rows), .slice none 0 0] 58) := ⟨_, rfl⟩
  have HI0 : Hid (HelkI w w.heap.size (w.heap.size + 1) (w.heap.size + 2) #[.int .i64 s.rows, .slice A s.cols.length k] #[.int .i64 0, .slice none 0 0] s 0 none 0 [] W0) := Lib.hid (by
    rw [hW0]
    exact ⟨(((Grew.refl w).alloc _).alloc _).alloc _, ((Blok.new _ _ _ _ rfl).alloc _).alloc _, (Blok.new _ _ _ _ (by simp)).alloc _, Blok.new _ _ _ _ (by simp), own_none _ _ _ _, ListR.nil⟩)
  go_enter Tryz.func76, Tryz.ntmps76
  go_upto_region 2 with (first | (go_at_call 74; refine (cut_any _ _).mono ?_; rintro e w' ⟨rfl, rfl⟩))
  rw [← hW0]
  clear hW0
  have hu5 : w.heap.size ≤ w.heap.size + 2 := by omega
  have h05 : w.heap.size < w.heap.size + 2 := by omega
  have h45 : w.heap.size + 1 < w.heap.size + 2 := by omega
  generalize hg5 : w.heap.size + 2 = g5 at *
  generalize hg4 : w.heap.size + 1 = g4 at *
  generalize hg0 : w.heap.size = g0 at *
  go_wp2
  go_loopw [15] (fun v wr => HelkAt w g0 g4 g5 #[.int .i64 s.rows, .slice A s.cols.length k] #[.int .i64 0, .slice none 0 0] s N v wr) (fun v _ => N - (intOf v).toNat)
  case atStart => exact ⟨0, none, 0, [], Nat.zero_le _, rfl, HI0.out⟩
  case round =>
    obtain ⟨i, A', c, css, hi, rfl, hI⟩ := hrel
    have HI := Lib.hid hI
    obtain ⟨x1, x2, x3⟩ := boxS hI.b0
    clear hI HI0
    by_cases h : i < N
    · go_wp2_with fail
      refine (HCol.out i _ HI.out.grew).mono ?_
      rintro e w2 ⟨B, j, rfl, hg2, ho2⟩
      have hml := HMl.out i
      generalize hx : colAt s i = x at ho2 hml ⊢
      obtain ⟨u, n, m⟩ := x
      have HX := Lib.hid hx
      simp only at ho2 hml ⊢
      have hcap := own_cap ho2
      have HO2 := Lib.hid ho2
      have HI2 := Lib.hid (HI.out.on hg2)
      have HG2 := Lib.hid hg2
      have hsz2 := hg2.size
      clear hg2 ho2 hx x1 x2 x3 HCol HMl
      go_upto_region 6 with fail
      obtain ⟨w3, hw3⟩ : ∃ w3, w3 = w2.alloc (.cells #[.int .i64 u, .int .i64 n, .slice B m.length j] 109) := ⟨_, rfl⟩
      have HB7 : Hid (Blok w3 w2.heap.size 109 #[.int .i64 u, .int .i64 n, .slice B m.length j]) := Lib.hid (by rw [hw3]; exact Blok.new _ _ _ _ rfl)
      have HI3 := Lib.hid (HI2.out.on (show Grew w2 w3 by rw [hw3]; exact (Grew.refl _).alloc _))
      have HO3 : Hid (w3.ownsRow wr.heap.size 3 1 (.slice B m.length j) m.length (iV m)) := Lib.hid (by rw [hw3]; exact own_alloc HO2.out _)
      have hG3 : Hid (Grew wr w3) := Lib.hid (by rw [hw3]; exact (Grew.trans HG2.out (Grew.refl _)).alloc _)
      have HOl : Hid (∀ k, (Value.slice B m.length j).ownBlock = some k → k < w2.heap.size) := Lib.hid (own_lt HO2.out)
      have hg5l : g5 < wr.heap.size := HI.out.b5.lt
      rw [← hw3]
      clear hw3 HO2 HI2 HG2
      generalize w2.heap.size = g7 at *
      have h57 : g5 ≠ g7 := by omega
      have h75 : g7 ≠ g5 := by omega
      obtain ⟨z1, z2, z3, z4, z5⟩ := boxS2 HI3.out.b5
      obtain ⟨y1, y2, y3, y4, y5, y6, y7⟩ := boxC HB7.out
      have HRc : Hid (heldC (cutI s.rows) (colAt s i) = heldC (cutI s.rows) ⟨u, n, m⟩) := Lib.hid (by rw [HX.out])
      have HSI : Hid (sI (cutI s.rows)) := Lib.hid (cutI_s s.rows)
      obtain ⟨rc, hrc⟩ : ∃ rc, cutI s.rows = rc := ⟨_, rfl⟩
      rw [hrc] at z2 HRc HSI HS0
      have HRq := Lib.hid hrc
      clear hrc
      have hnn0 := nearI_in (n := n) HS0.out
      obtain ⟨nn, hnn⟩ : ∃ nn, nearI n rc = nn := ⟨_, rfl⟩
      rw [hnn] at hnn0
      obtain ⟨mn, hmn⟩ : ∃ mn, max (0 : Int) n = mn := ⟨_, rfl⟩
      have e2 : min rc mn = nn := by rw [← hmn, near_min _ _ HS0.out, hnn]
      obtain ⟨d, hd⟩ : ∃ d, rc - nn = d := ⟨_, rfl⟩
      have e3 : IntKind.i64.wrap (rc - nn) = d := by
        rw [← hd]
        exact IntWalk.i64_in _ (by have := HSI.out; unfold sI at this; omega)
      have hd0 : 0 ≤ d := by omega
      obtain ⟨uu, huu⟩ : ∃ uu, nearI u d = uu := ⟨_, rfl⟩
      obtain ⟨mu, hmu⟩ : ∃ mu, max (0 : Int) u = mu := ⟨_, rfl⟩
      have e5 : min d mu = uu := by rw [← hmu, near_min _ _ hd0, huu]
      obtain ⟨mq, hmq⟩ : ∃ mq, m.take 9 = mq := ⟨_, rfl⟩
      have hml9 : mq.length = min 9 m.length := by rw [← hmq, List.length_take]
      have e6 : min (9 : Int) (m.length : Int) = (mq.length : Nat) := by omega
      have hmq1 : mq.length ≤ m.length := by omega
      have hqj : (mq.length : Int) ≤ (j : Int) := by omega
      have HC1 : Hid (heldC rc ⟨u, n, m⟩ = ⟨uu, nn, sortI mq⟩) := Lib.hid (by
        unfold heldC
        simp only
        rw [hnn, hd, huu, hmq])
      have HMq : Hid ((iV m).take mq.length = iV mq) := Lib.hid (by
        unfold iV
        rw [← List.map_take, hml9, ← hmq]
        rcases Nat.le_total 9 m.length with h9 | h9
        · rw [Nat.min_eq_left h9]
        · rw [Nat.min_eq_right h9, List.take_of_length_le (Nat.le_refl _), List.take_of_length_le h9])
      have hq9 : mq.length ≤ 9 := by omega
      have HHd := hd
      clear hnn0 hnn hd hd0 huu hmq hml9 HX HS0 HSI HHd hml
      go_upto_region 9 with fail
      have HB9 : Hid (Blok (((w3.setCell ⟨g7, 1, none⟩ (.int .i64 nn)).setCell ⟨g7, 0, none⟩ (.int .i64 uu)).setCell ⟨g7, 2, none⟩ (.slice B mq.length j)) g7 109 #[.int .i64 uu, .int .i64 nn, .slice B mq.length j]) := Lib.hid (by
        have := ((HB7.out.set 1 (.int .i64 nn)).set 0 (.int .i64 uu)).set 2 (.slice B mq.length j)
        simpa using this)
      have hw7 : wr.heap.size ≤ g7 := hsz2
      have HG9 : Hid (Grew wr (((w3.setCell ⟨g7, 1, none⟩ (.int .i64 nn)).setCell ⟨g7, 0, none⟩ (.int .i64 uu)).setCell ⟨g7, 2, none⟩ (.slice B mq.length j))) := Lib.hid (Grew.setCell (Grew.setCell (Grew.setCell hG3.out (a := ⟨g7, 1, none⟩) hw7 _) (a := ⟨g7, 0, none⟩) hw7 _) (a := ⟨g7, 2, none⟩) hw7 _)
      have HO9 : Hid (World.ownsRow (((w3.setCell ⟨g7, 1, none⟩ (.int .i64 nn)).setCell ⟨g7, 0, none⟩ (.int .i64 uu)).setCell ⟨g7, 2, none⟩ (.slice B mq.length j)) wr.heap.size 3 1 (.slice B mq.length j) mq.length (iV mq)) := Lib.hid (by
        have hne : ∀ q, (Value.slice B m.length j).ownBlock = some q → q ≠ g7 := fun q hq => by have := HOl.out q hq; omega
        have := own_cut (own_aside2 (p := ⟨g7, 2, none⟩) (own_aside2 (p := ⟨g7, 0, none⟩) (own_aside2 (p := ⟨g7, 1, none⟩) HO3.out hne (.int .i64 nn)) hne (.int .i64 uu)) hne (.slice B mq.length j)) hmq1
        rw [HMq.out] at this
        exact this)
      have HOl9 : Hid (∀ k, (Value.slice B mq.length j).ownBlock = some k → k < g7) := Lib.hid fun k hk => HOl.out k (by cases B <;> exact hk)
      clear y1 y2 y3 y4 y5 y6 y7 z1 z2 z3 z4 z5 HB7 HI3 hG3 HO3 HOl HMq hmn e2 e3 e5 hmu
      generalize (((w3.setCell ⟨g7, 1, none⟩ (.int .i64 nn)).setCell ⟨g7, 0, none⟩ (.int .i64 uu)).setCell ⟨g7, 2, none⟩ (.slice B mq.length j)) = w9 at *
      obtain ⟨y1, y2, y3, y4, y5, y6, y7⟩ := boxC HB9.out
      go_wp2_with fail
      refine (sort_own mq (by omega) B j wr.heap.size w9 HO9.out).mono ?_
      rintro e w4 ⟨rfl, ho4, hb4⟩
      have hrow4 : ∀ k, (Value.slice B mq.length j).ownBlock = some k → wr.heap.size ≤ k := own_base HO9.out
      have HG4 : Hid (Grew wr w4) := Lib.hid (HG9.out.grown hb4 hrow4)
      have HB4 : Hid (Blok w4 g7 109 #[.int .i64 uu, .int .i64 nn, .slice B mq.length j]) := Lib.hid (HB9.out.grown hb4 (fun e => by have := HOl9.out _ e; omega))
      have HI4 := Lib.hid (HI.out.on HG4.out)
      have HX4 : Hid (∀ W, Grew w4 W → CstR (TRow w.heap.size W) (heldC rc ⟨u, n, m⟩) [.int .i64 uu, .int .i64 nn, .slice B mq.length j]) := Lib.hid fun W hW => by
        rw [HC1.out]
        refine ⟨B, j, ?_, ?_, (TRow.own (own_le ho4 ?_)).grew hW⟩
        · show _ = [_, _, Value.slice B (sortI mq).length j]
          rw [sortI_len]
        · show (sortI mq).length ≤ j
          rw [sortI_len]
          omega
        · rw [hg0]; omega
      clear y1 y2 y3 y4 y5 y6 y7 ho4 hb4 hrow4 HB9 HG9 HO9 HOl9 HC1
      obtain ⟨y1, y2, y3, y4, y5, y6, y7⟩ := boxC HB4.out
      obtain ⟨z1, z2, z3, z4, z5⟩ := boxS2 HI4.out.b5
      have hone : ∀ x ∈ [Value.int .i64 uu, .int .i64 nn, .slice B mq.length j], x.oneCell' = true := by
        intro x hx
        simp at hx
        rcases hx with rfl | rfl | rfl <;> rfl
      have HOne := Lib.hid hone
      have HIa := Lib.hid (HI4.out.on ((Grew.refl w4).alloc (.cells #[.int .i64 uu, .int .i64 nn, .slice B mq.length j] 109)))
      have HXa := Lib.hid (HX4.out _ ((Grew.refl w4).alloc (.cells #[.int .i64 uu, .int .i64 nn, .slice B mq.length j] 109)))
      have hg54 : g5 + 1 ≤ w4.heap.size := z1
      clear hone HX4 HG4 z2
      go_wp2_with (at_builtin; refine wpList_appB rfl _ _ 56 109 3 rfl (g5 + 1) (.agg #[.int .i64 0, .int .i64 0, .slice none 0 0]) 40 Tryz.underlying56 infoCs rfl (by decide) (by decide) _ i css.flatten rfl HIa.out.own _ 1 1 [.int .i64 uu, .int .i64 nn, .slice B mq.length j] rfl rfl (row_new _ _ _ _ rfl) HOne.out (by omega) (by rw [World.size_alloc]; omega) ?_; intro A6 c6 w6 ho6 hb6; have HI6 := Lib.hid (HIa.out.snoc (by rw [hg0]; exact hu5) h05 h45 (by rw [HRq.out, HRc.out]; exact HXa.out) ho6 hb6); obtain ⟨v1, v2, v3, v4, v5⟩ := boxS2 (HIa.out.b5.grown hb6 (fun e => by have := own_base HIa.out.own _ e; omega)); clear ho6 hb6 v2)
      exact ⟨⟨i + 1, A6, c6, _, by omega, by go_num, HI6.out⟩, by simp only [intOf]; omega⟩
    · obtain rfl : i = N := by omega
      have HD := Lib.hid (HI.out.res (by rw [hg0]; omega) h45 (.int .i64 (cutI s.rows)) (.slice A' i c))
      have HE := Lib.hid (HFin.out A' c _ HD.out.1 (by have := HD.out.2; rw [hg0] at this; exact this))
      obtain ⟨z1, z2, z3, z4, z5⟩ := boxS2 HI.out.b5
      obtain ⟨y1, y2, y3, y4, y5⟩ := boxS2 HI.out.b4
      have HB4 := Lib.hid HI.out.b4
      clear HFin HCol HMl x1 x2 x3 HD
      go_wp2
      have bf := (HB4.out.set 0 (.int .i64 (cutI s.rows))).set 1 (.slice A' i c)
      have q0 := bf.cell 0
      have q1 := bf.cell 1
      simp at q0 q1
      exact bodyPost_ret (v := .agg #[.int .i64 (cutI s.rows), .slice A' i c]) (by simp [results, Tryz.results76, go_sem, q0, q1]) rfl HE.out
end Go.Proofs.YtbglmcebkpkccaaGreatDoor

/- Layer 29: what is said of a table's column; marks below a number: by the program and by the document. Condition: what is held, in memory that is there. -/
namespace Go.Proofs.YtbglmcebkpkccaaGreatDoor
open Go.RowKit
attribute [local go_sem] more_cell more_frozen more_more more_setCell more_of_drew more_of_drewN lt_more le_more past_cell past_cell2 past_frozen past_frozen2 past_setCell past_setCell2 mid_cell mid_frozen mid_setCell
attribute [local go_sem] fldC0 fldC1 fldS0
attribute [local go_sem ↓] Go.wp_at_zero Go.wp_at_succ

theorem k_cases (n : Nat) (t : Int) : t < 0 ∨ (0 ≤ t ∧ (n : Int) ≤ t) ∨ (∃ i : Nat, t = i ∧ i < n) := by
  by_cases h : t < 0
  · exact Or.inl h
  · by_cases h2 : (n : Int) ≤ t
    · exact Or.inr (Or.inl ⟨by omega, h2⟩)
    · exact Or.inr (Or.inr ⟨t.toNat, by omega, by omega⟩)
theorem rowsK_in {sd : List Sst} {i : Nat} (h : i < sd.length) : rowsK sd i = sd[i].rows := by
  unfold rowsK
  rw [if_pos (by omega), Int.toNat_natCast, List.getD_eq_getElem?_getD, List.getElem?_eq_getElem h]
  rfl
theorem colK_in {sd : List Sst} {i : Nat} (h : i < sd.length) (c : Int) : colK sd i c = colI sd[i].cols c := by
  unfold colK
  rw [if_pos (by omega), Int.toNat_natCast, List.getD_eq_getElem?_getD, List.getElem?_eq_getElem h]
  rfl
theorem krows_any (sd : List Sst) (t : Int) (A : Option Addr) (k : Nat) (w : World) (ra : SstsR (PRow w) A sd) :
    Gives Tryz.prog 78 #[.slice A sd.length k, .int .i64 t] w (.int .i64 (rowsK sd t)) := by
  unfold Gives
  rcases k_cases sd.length t with h | ⟨h1, h2⟩ | ⟨i, rfl, hi⟩
  · rw [show rowsK sd t = 0 by unfold rowsK; rw [if_neg (by omega)]]
    clear ra
    go_enter Tryz.func78, Tryz.ntmps78
    go_wp2
    go_ret
    exact ⟨rfl, by (show Grew _ _; repeat (first | exact Grew.refl _ | refine Grew.alloc ?_ _ | refine Grew.drew ?_ | refine Grew.more ?_ _))⟩
  · rw [show rowsK sd t = 0 by unfold rowsK; rw [if_neg (by omega)]]
    have t1 : decide (t < (0 : Int)) = false := decide_eq_false (by omega)
    clear ra
    go_enter Tryz.func78, Tryz.ntmps78
    go_wp2
    go_ret
    exact ⟨rfl, by (show Grew _ _; repeat (first | exact Grew.refl _ | refine Grew.alloc ?_ _ | refine Grew.drew ?_ | refine Grew.more ?_ _))⟩
  · rw [rowsK_in hi]
    obtain ⟨b, o, B, kb, rfl, hb, c0, c1, _⟩ := sstsR_at ra hi
    have h1 : ((i : Nat) : Int) < (sd.length : Int) := by omega
    clear ra
    generalize sd[i] = s at *
    go_enter Tryz.func78, Tryz.ntmps78
    go_wp2
    go_ret
    exact ⟨rfl, by (show Grew _ _; repeat (first | exact Grew.refl _ | refine Grew.alloc ?_ _ | refine Grew.drew ?_ | refine Grew.more ?_ _))⟩
/-- What is said of a column comes back. -/
def KolF (w : World) (x : Cst) (e : Ending) (w' : World) : Prop := ∃ B j, e = .returned (.agg #[.int .i64 x.u, .int .i64 x.n, .slice B x.m.length j]) ∧ Grew w w' ∧ TRow w.heap.size w' 3 B (iV x.m)
theorem box3 {w : World} {g : Nat} {T : TypeId} {v0 v1 v2 : Value} (h : Blok w g T #[v0, v1, v2]) (a b c : Value) : Blok (((w.setCell ⟨g, 0, none⟩ a).setCell ⟨g, 1, none⟩ b).setCell ⟨g, 2, none⟩ c) g T #[a, b, c] := by
  have := ((h.set 0 a).set 1 b).set 2 c
  simpa using this
set_option maxRecDepth 100000 in
theorem kcol_any (sd : List Sst) (hs : OkSd sd) (t c : Int) (A : Option Addr) (k : Nat) (w : World) (ra : SstsR (PRow w) A sd) :
    Calls Tryz.prog 112 #[.slice A sd.length k, .int .i64 t, .int .i64 c] w (KolF w (colK sd t c)) := by
  have hd : ∀ W, Grew w W → KolF w default (.returned (.agg #[.int .i64 0, .int .i64 0, .slice none 0 0])) W := fun W hW => ⟨none, 0, rfl, hW, Or.inl rfl⟩
  rcases k_cases sd.length t with h | ⟨h1, h2⟩ | ⟨i, rfl, hi⟩
  · rw [show colK sd t c = default by unfold colK; rw [if_neg (by omega)]]
    have HD := Lib.hid hd
    clear ra hd
    go_enter Tryz.func112, Tryz.ntmps112
    go_wp2
    exact bodyPost_ret (v := .agg #[.int .i64 0, .int .i64 0, .slice none 0 0]) (by simp [results, Tryz.results112, go_sem]) rfl (HD.out _ (by (show Grew _ _; repeat (first | exact Grew.refl _ | refine Grew.alloc ?_ _ | refine Grew.drew ?_ | refine Grew.more ?_ _))))
  · rw [show colK sd t c = default by unfold colK; rw [if_neg (by omega)]]
    have HD := Lib.hid hd
    have t1 : decide (t < (0 : Int)) = false := decide_eq_false (by omega)
    clear ra hd
    go_enter Tryz.func112, Tryz.ntmps112
    go_wp2
    exact bodyPost_ret (v := .agg #[.int .i64 0, .int .i64 0, .slice none 0 0]) (by simp [results, Tryz.results112, go_sem]) rfl (HD.out _ (by (show Grew _ _; repeat (first | exact Grew.refl _ | refine Grew.alloc ?_ _ | refine Grew.drew ?_ | refine Grew.more ?_ _))))
  · rw [colK_in hi]
    obtain ⟨b, o, B, kb, rfl, hb, c0, c1, hr⟩ := sstsR_at ra hi
    have h1 : ((i : Nat) : Int) < (sd.length : Int) := by omega
    have HC : Hid (∀ W, Grew w W → Calls Tryz.prog 105 #[.agg #[.int .i64 sd[i].rows, .slice B sd[i].cols.length kb], .int .i64 c] W (ColF W (colI sd[i].cols c))) := Lib.hid fun W hW => col_any sd[i].rows sd[i].cols B kb c (fun x hx => Nat.le_trans ((hs _ (List.getElem_mem hi)).2 x hx).2.2 (by decide)) W (hr.grew hW)
    clear ra hr hd hs
    generalize colI sd[i].cols c = x at *
    generalize sd[i] = s at *
    go_enter Tryz.func112, Tryz.ntmps112
    go_wp2_with fail
    refine (HC.out _ ((Grew.refl w).alloc _)).mono ?_
    rintro e w2 ⟨B2, j2, rfl, hg2, ho2⟩
    have hB : Blok w2 w.heap.size 109 #[.int .i64 0, .int .i64 0, .slice none 0 0] := (Blok.new _ _ _ _ rfl).grew hg2
    have HBf := Lib.hid (box3 hB (.int .i64 x.u) (.int .i64 x.n) (.slice B2 x.m.length j2))
    have HG := Lib.hid (Grew.setCell (Grew.setCell (Grew.setCell (((Grew.refl w).alloc _).trans hg2) (a := ⟨w.heap.size, 0, none⟩) (Nat.le_refl _) (.int .i64 x.u)) (a := ⟨w.heap.size, 1, none⟩) (Nat.le_refl _) (.int .i64 x.n)) (a := ⟨w.heap.size, 2, none⟩) (Nat.le_refl _) (.slice B2 x.m.length j2))
    have ho3 := ownsRow_setCell_below (ownsRow_setCell_below (ownsRow_setCell_below ho2 (a := ⟨w.heap.size, 0, none⟩) (by simp) (.int .i64 x.u)) (a := ⟨w.heap.size, 1, none⟩) (by simp) (.int .i64 x.n)) (a := ⟨w.heap.size, 2, none⟩) (by simp) (.slice B2 x.m.length j2)
    have HR := Lib.hid (TRow.own (own_le ho3 (show w.heap.size ≤ _ by rw [World.size_alloc]; omega)))
    have d0 := hB.cell 0
    have d1 := hB.cell 1
    have d2 := hB.cell 2
    have z0 := hB.thaw 0
    have z1 := hB.thaw 1
    have z2 := hB.thaw 2
    have hlt := hB.lt
    simp at d0 d1 d2
    clear hg2 ho2 ho3 hB
    go_wp2
    clear d0 d1 d2 z0 z1 z2 hlt
    generalize (((w2.setCell ⟨w.heap.size, 0, none⟩ (.int .i64 x.u)).setCell ⟨w.heap.size, 1, none⟩ (.int .i64 x.n)).setCell ⟨w.heap.size, 2, none⟩ (.slice B2 x.m.length j2)) = Wf at *
    have r0 := HBf.out.cell 0
    have r1 := HBf.out.cell 1
    have r2 := HBf.out.cell 2
    simp at r0 r1 r2
    exact bodyPost_ret (v := .agg #[.int .i64 x.u, .int .i64 x.n, .slice B2 x.m.length j2]) (by simp [results, Tryz.results112, go_sem, r0, r1, r2]) rfl ⟨B2, j2, rfl, HG.out, HR.out⟩
theorem i64_of {n : Int} (h : 0 ≤ n) (h2 : n ≤ 4611686018427387904) : isI64 n := ⟨by omega, by omega⟩
set_option maxRecDepth 100000 in
theorem ksame_any (sd : List Sst) (hs : OkSd sd) (t c u d : Int) (A : Option Addr) (k : Nat) (w : World) (ra : SstsR (PRow w) A sd) :
    Gives Tryz.prog 88 #[.slice A sd.length k, .int .i64 t, .int .i64 c, .int .i64 u, .int .i64 d] w (.float .f64 (sameK sd t c u d)) := by
  have H1 : Hid (∀ W, Grew w W → Calls Tryz.prog 112 #[.slice A sd.length k, .int .i64 t, .int .i64 c] W (KolF W (colK sd t c))) := Lib.hid fun W hW => kcol_any sd hs t c A k W (ra.grew hW)
  have H2 : Hid (∀ W, Grew w W → Calls Tryz.prog 112 #[.slice A sd.length k, .int .i64 u, .int .i64 d] W (KolF W (colK sd u d))) := Lib.hid fun W hW => kcol_any sd hs u d A k W (ra.grew hW)
  have h1 := colK_ok hs t c
  have h2 := colK_ok hs u d
  unfold sameK
  obtain ⟨m, hm⟩ : ∃ m, max (colK sd t c).u (colK sd u d).u = m := ⟨_, rfl⟩
  have HO : Hid (∀ W, Gives Tryz.prog 111 #[.int .i64 1, .int .i64 m] W (.float .f64 (ofB 1 m))) := Lib.hid fun W => fof_any 1 m ⟨by decide, by decide⟩ ⟨by omega, by omega⟩ W
  rw [hm]
  generalize ofB 1 m = q at *
  generalize colK sd t c = x at *
  generalize colK sd u d = y at *
  clear h1 h2 ra hs
  unfold Gives
  go_enter Tryz.func88, Tryz.ntmps88
  go_wp2_with (first | (go_at_call_of 112 (Value.int .i64 c); (with_reducible refine (H1.out _ (Grew.refl w)).mono ?_); rintro e1 w1 ⟨B1, j1, rfl, hg1, _⟩; have HG1 := Lib.hid hg1; clear hg1) | (go_at_call 112; (with_reducible refine (H2.out _ HG1.out).mono ?_); rintro e2 w2 ⟨B2, j2, rfl, hg2, _⟩; have HG2 := Lib.hid (HG1.out.trans hg2); clear hg2) | (go_at_call 111; (with_reducible refine (HO.out _).grows.mono ?_); rintro e3 w3 ⟨rfl, hg3⟩; have HG3 := Lib.hid (HG2.out.trans hg3); clear hg3))
  go_ret
  exact ⟨rfl, HG3.out⟩
theorem kbelow_any (m : List Int) (hm : m.length ≤ 1000) (n : Int) (A : Option Addr) (k : Nat) (w : World) (ra : Row w A (iV m)) :
    Gives Tryz.prog 144 #[.slice A m.length k, .int .i64 n] w (.float .f64 (belowK m n)) := by
  have hb := belowN_le m n
  have H1 := Lib.hid (below_any m (by omega) A k n w ra)
  have HO : Hid (∀ W, Gives Tryz.prog 111 #[.int .i64 (belowN m n), .int .i64 m.length] W (.float .f64 (belowK m n))) := Lib.hid fun W => fof_any _ _ ⟨by omega, by omega⟩ ⟨by omega, by omega⟩ W
  clear ra
  unfold Gives
  generalize belowK m n = q at *
  generalize belowN m n = b at *
  go_enter Tryz.func144, Tryz.ntmps144
  go_wp2_with (first | (go_at_call 148; (with_reducible refine H1.out.grows.mono ?_); rintro e1 w1 ⟨rfl, hg1⟩; have HG1 := Lib.hid hg1; clear hg1) | (go_at_call 111; (with_reducible refine (HO.out _).grows.mono ?_); rintro e3 w3 ⟨rfl, hg3⟩; have HG3 := Lib.hid (HG1.out.trans hg3); clear hg3))
  go_ret
  exact ⟨rfl, HG3.out⟩
def UpAt (w : World) (m : List Int) (n : Int) (v i : Value) (wr : World) : Prop := ∃ j : Nat, j ≤ m.length ∧ i = .int .i64 j ∧ v = .int .i64 (upToN (m.take j) n) ∧ Grew w wr
theorem kupTo_any (m : List Int) (hm : m.length ≤ 1000) (n : Int) (A : Option Addr) (k : Nat) (w : World) (ra : Row w A (iV m)) :
    Gives Tryz.prog 145 #[.slice A m.length k, .int .i64 n] w (.float .f64 (upToK m n)) := by
  have hb := upToN_le m n
  have RA := Lib.hid ra
  have HO : Hid (∀ W, Gives Tryz.prog 111 #[.int .i64 (upToN m n), .int .i64 m.length] W (.float .f64 (upToK m n))) := Lib.hid fun W => fof_any _ _ ⟨by omega, by omega⟩ ⟨by omega, by omega⟩ W
  clear ra
  unfold Gives
  generalize upToK m n = q at *
  go_enter Tryz.func145, Tryz.ntmps145
  go_wp2
  go_loopw [5, 10] (fun v i wr => UpAt w m n v i wr) (fun _ i _ => m.length - (intOf i).toNat)
  case atStart => exact ⟨0, Nat.zero_le _, rfl, rfl, Grew.refl _⟩
  case round =>
    obtain ⟨j, hj, rfl, rfl, hg⟩ := hrel
    have HG := Lib.hid hg
    have hc := upToN_le (m.take j) n
    rw [List.length_take] at hc
    by_cases h : j < m.length
    · obtain ⟨b, o, rfl, hb2, hcell⟩ := rowI_at (RA.out.grew hg) h
      have HT := Lib.hid (upToN_succ h n)
      clear hg
      generalize m[j] = x at *
      generalize upToN (m.take j) n = cnt at *
      by_cases hx : x ≤ n
      · rw [if_pos hx] at HT
        go_wp2
        exact ⟨⟨j + 1, by omega, by go_num, by rw [HT.out]; go_num, HG.out⟩, by simp only [intOf]; omega⟩
      · rw [if_neg hx] at HT
        have hx' : decide (x ≤ n) = false := decide_eq_false hx
        go_wp2
        exact ⟨⟨j + 1, by omega, by go_num, by rw [HT.out]; go_num, HG.out⟩, by simp only [intOf]; omega⟩
    · obtain rfl : j = m.length := by omega
      rw [List.take_length]
      clear hg hc
      generalize upToN m n = cnt at *
      go_wp2_with (go_at_call 111; (with_reducible refine (HO.out _).grows.mono ?_); rintro e3 w3 ⟨rfl, hg3⟩; have HG3 := Lib.hid (HG.out.trans hg3); clear hg3)
      go_ret
      exact ⟨rfl, HG3.out⟩
theorem knumber_any (x : Ex) (A : Option Addr) (k : Nat) (w : World) : Gives Tryz.prog 139 #[exV x A k] w (.bool (isNum x)) := by
  unfold Gives exV
  by_cases h1 : x.op = 16
  · have t1 : (x.op == 16) = true := by rw [beq_iff_eq]; exact h1
    by_cases h2 : x.vk = 1
    · rw [show isNum x = true by unfold isNum; rw [decide_eq_true h1, decide_eq_true h2]; rfl]
      have t2 : (x.vk == 1) = true := by rw [beq_iff_eq]; exact h2
      clear h1 h2
      go_enter Tryz.func139, Tryz.ntmps139
      go_wp2
      go_ret
      exact ⟨rfl, by (show Grew _ _; repeat (first | exact Grew.refl _ | refine Grew.alloc ?_ _ | refine Grew.drew ?_ | refine Grew.more ?_ _))⟩
    · rw [show isNum x = false by unfold isNum; rw [decide_eq_true h1, decide_eq_false h2]; rfl]
      have t2 : (x.vk == 1) = false := by rw [beq_eq_false_iff_ne]; exact h2
      clear h1 h2
      go_enter Tryz.func139, Tryz.ntmps139
      go_wp2
      go_ret
      exact ⟨rfl, by (show Grew _ _; repeat (first | exact Grew.refl _ | refine Grew.alloc ?_ _ | refine Grew.drew ?_ | refine Grew.more ?_ _))⟩
  · rw [show isNum x = false by unfold isNum; rw [decide_eq_false h1]; rfl]
    have t1 : (x.op == 16) = false := by rw [beq_eq_false_iff_ne]; exact h1
    clear h1
    go_enter Tryz.func139, Tryz.ntmps139
    go_wp2
    go_ret
    exact ⟨rfl, by (show Grew _ _; repeat (first | exact Grew.refl _ | refine Grew.alloc ?_ _ | refine Grew.drew ?_ | refine Grew.more ?_ _))⟩
theorem rknumber_any (x : Ex) (A : Option Addr) (k : Nat) (w : World) : Gives Tryz.prog 83 #[exV x A k] w (.bool (isNum x)) := by
  unfold Gives exV
  by_cases h1 : x.op = 16
  · have t1 : (x.op == 16) = true := by rw [beq_iff_eq]; exact h1
    by_cases h2 : x.vk = 1
    · rw [show isNum x = true by unfold isNum; rw [decide_eq_true h1, decide_eq_true h2]; rfl]
      have t2 : (x.vk == 1) = true := by rw [beq_iff_eq]; exact h2
      clear h1 h2
      go_enter Tryz.func83, Tryz.ntmps83
      go_wp2
      go_ret
      exact ⟨rfl, by (show Grew _ _; repeat (first | exact Grew.refl _ | refine Grew.alloc ?_ _ | refine Grew.drew ?_ | refine Grew.more ?_ _))⟩
    · rw [show isNum x = false by unfold isNum; rw [decide_eq_true h1, decide_eq_false h2]; rfl]
      have t2 : (x.vk == 1) = false := by rw [beq_eq_false_iff_ne]; exact h2
      clear h1 h2
      go_enter Tryz.func83, Tryz.ntmps83
      go_wp2
      go_ret
      exact ⟨rfl, by (show Grew _ _; repeat (first | exact Grew.refl _ | refine Grew.alloc ?_ _ | refine Grew.drew ?_ | refine Grew.more ?_ _))⟩
  · rw [show isNum x = false by unfold isNum; rw [decide_eq_false h1]; rfl]
    have t1 : (x.op == 16) = false := by rw [beq_eq_false_iff_ne]; exact h1
    clear h1
    go_enter Tryz.func83, Tryz.ntmps83
    go_wp2
    go_ret
    exact ⟨rfl, by (show Grew _ _; repeat (first | exact Grew.refl _ | refine Grew.alloc ?_ _ | refine Grew.drew ?_ | refine Grew.more ?_ _))⟩
end Go.Proofs.YtbglmcebkpkccaaGreatDoor

/- Layer 29: what is held of all tables, by the program. Condition: no more than 16 tables, a million marks a column, what is said in memory that is there. -/
namespace Go.Proofs.YtbglmcebkpkccaaGreatDoor
open Go.RowKit
attribute [local go_sem] more_cell more_frozen more_more more_setCell more_of_drew more_of_drewN lt_more le_more past_cell past_cell2 past_frozen past_frozen2 past_setCell past_setCell2 mid_cell mid_frozen mid_setCell
attribute [local go_sem] fldC0 fldC1 fldS0
attribute [local go_sem ↓] Go.wp_at_zero Go.wp_at_succ

section
variable {P : Program}
/-- make of none, with room, whatever the elements' size. -/
theorem wpList_make_room (w : World) {ops : Array Oper} {rest : List Oper} {o : Oper} {a : Act} {Q : Exit → Act → World → Prop}
    (hg : o.guard = none) (l c : Operand) (t : TypeId) (hop : o.op = Op.makeSlice t l c)
    (e : TypeId) (z : Value) (zs : Array Value) (size bytes : Nat) (ht : P.underlying t = some (.slice e)) (hinfo : (P.info? e).map (fun i => (i.zero, i.size, i.bytes)) = some (some z, size, bytes)) (hzs : z.cells = zs)
    (kl kc : IntKind) (n : Nat) (hl : a.eval l = .int kl 0) (hc : a.eval c = .int kc (n : Int)) (hbytes : bytes * n ≤ 281474976710656) (h63 : n ≤ 9223372036854775807)
    (hK : wpList P ops Q rest (a.put o.dst (.slice (some ⟨w.heap.size, 0, none⟩) 0 n)) (w.alloc (.cells (madeCells zs (n * size)) e))) :
    wpList P ops Q (o :: rest) a w := by
  refine wpList_plain hg fun K hK' => ?_
  obtain ⟨i, hi, hzz⟩ := Option.map_eq_some_iff.1 hinfo
  simp only [Prod.mk.injEq] at hzz
  obtain ⟨hz, hs, hb⟩ := hzz
  have hb' : (i.bytes : Int) * (n : Int) ≤ 281474976710656 := by
    have h : ((i.bytes * n : Nat) : Int) ≤ 281474976710656 := by rw [hb]; omega
    rwa [Int.natCast_mul] at h
  have hr := run_make (P := P) w t e i z ht hi hz kl kc 0 n (Int.le_refl _) (by omega) hb' (by omega)
  simp only [Int.toNat_zero, Int.toNat_natCast, hs, hzs] at hr
  unfold Oper.wp
  simp [execOp, hop, hl, hc, hr, Result.andThen]
  exact hK' _ _ hK
end
theorem infoSt : (Tryz.prog.info? 58).map (fun i => (i.zero, i.size, i.bytes)) = some (some (.agg #[.int .i64 0, .slice none 0 0]), 2, 32) := by kernel_rfl
def heldAll (l : List Sst) : List Sst := l.map fun s => heldS s 16
theorem heldAll_len (l : List Sst) : (heldAll l).length = l.length := List.length_map _
theorem heldAll_ok (l : List Sst) : OkSd (heldAll l) := fun s hs => by
  obtain ⟨x, _, rfl⟩ := List.mem_map.1 hs
  exact heldS_ok x 16
/-- What is said of tables, gathered in a row of one's own. -/
structure GatK (u : World) (L : List Sst) (A : Option Addr) (c : Nat) (css : List (List Value)) (wr : World) : Prop where
  grew : Grew u wr
  own : wr.ownsRow u.heap.size 58 2 (.slice A L.length c) L.length css.flatten
  rows : ListR (SstR (TRow u.heap.size wr)) 2 L css
theorem TRow.grewQ {B : Nat} {w w' : World} (g : Grew w w') : ∀ e A xs, TRow B w e A xs → TRow B w' e A xs := fun _ _ _ h => h.grew g
theorem GatK.on {u wr w' : World} {L : List Sst} {A : Option Addr} {c : Nat} {css : List (List Value)} (h : GatK u L A c css wr) (g : Grew wr w') : GatK u L A c css w' := by
  refine ⟨h.grew.trans g, ?_, h.rows.map fun _ _ hx => hx.imp (TRow.grewQ g)⟩
  obtain ⟨x, rfl⟩ := g
  exact own_more h.own x
theorem GatK.done {u wr : World} {L : List Sst} {A : Option Addr} {c : Nat} {css : List (List Value)} (h : GatK u L A c css wr) : SstsR (PRow wr) A L := by
  obtain ⟨A', c', e, hr⟩ := own_row h.own
  injection e with e _ _
  subst e
  exact ⟨css, h.rows.map fun x cs hx => hx.imp fun e B xs hm => hm.plain, hr⟩
theorem neIS : (3 : TypeId) ≠ 58 := by decide
theorem neKS : (109 : TypeId) ≠ 58 := by decide
theorem CstR.imp2 {R R' : Rw} {c : Cst} {cs : List Value} (h : CstR R c cs) (H : ∀ A xs, R 3 A xs → R' 3 A xs) : CstR R' c cs := h.imp H
theorem SstR.imp2 {R R' : Rw} {s : Sst} {cs : List Value} (h : SstR R s cs) (H1 : ∀ A xs, R 3 A xs → R' 3 A xs) (H2 : ∀ A xs, R 109 A xs → R' 109 A xs) : SstR R' s cs := by
  obtain ⟨A, k, e, css, h1, h2⟩ := h
  exact ⟨A, k, e, css, h1.map fun x cs hx => hx.imp H1, H2 _ _ h2⟩
theorem GatK.snoc {u wr w' : World} {L : List Sst} {A A' : Option Addr} {c c' : Nat} {css : List (List Value)} {x : Sst} {cs : List Value} (h : GatK u L A c css wr) (hx : SstR (TRow u.heap.size wr) x cs)
    (ho : w'.ownsRow u.heap.size 58 2 (.slice A' (L.length + 1) c') (L.length + 1) (css.flatten ++ cs)) (hb : wr.grownBy w' (Value.slice A L.length c).ownBlock) : GatK u (L ++ [x]) A' c' (css ++ [cs]) w' := by
  have H1 : ∀ B xs, TRow u.heap.size wr 3 B xs → TRow u.heap.size w' 3 B xs := fun B xs hm => hm.grown h.own neIS hb
  have H2 : ∀ B xs, TRow u.heap.size wr 109 B xs → TRow u.heap.size w' 109 B xs := fun B xs hm => hm.grown h.own neKS hb
  have hl : cs.length = 2 := by obtain ⟨_, _, rfl, _⟩ := hx; rfl
  refine ⟨h.grew.grown hb fun k hk => own_base h.own k hk, ?_, (h.rows.map fun y ds hy => hy.imp2 H1 H2).snoc (hx.imp2 H1 H2) hl⟩
  rw [List.length_append, List.length_singleton, List.flatten_append]
  simpa using ho
def KheldF (w : World) (l : List Sst) (e : Ending) (w' : World) : Prop := ∃ A k, e = .returned (.slice A l.length k) ∧ Grew w w' ∧ SstsR (PRow w') A l
def HeldsAt (w : World) (l : List Sst) (v i : Value) (wr : World) : Prop := ∃ (j : Nat) (A : Option Addr) (c : Nat) (css : List (List Value)), j ≤ l.length ∧ v = .slice A j c ∧ i = .int .i64 j ∧ GatK w (heldAll (l.take j)) A c css wr
set_option maxHeartbeats 800000 in
set_option maxRecDepth 100000 in
theorem kheld_any (l : List Sst) (hl : l.length ≤ 1000000) (hm : ∀ s ∈ l, ∀ x ∈ s.cols, x.m.length ≤ 1000000) (A : Option Addr) (k : Nat) (w : World) (ra : SstsR (PRow w) A l) :
    Calls Tryz.prog 39 #[.slice A l.length k] w (KheldF w (heldAll l)) := by
  have RA := Lib.hid ra
  have HM := Lib.hid hm
  clear ra hm
  go_enter Tryz.func39, Tryz.ntmps39
  go_wp2_with (at_make; refine wpList_make_room _ rfl _ _ 72 rfl 58 (.agg #[.int .i64 0, .slice none 0 0]) #[.int .i64 0, .slice none 0 0] 2 32 Tryz.underlying72 infoSt rfl _ _ l.length rfl rfl (by omega) (by omega) ?_)
  have HO1 : Hid ((w.alloc (.cells (madeCells #[.int .i64 0, .slice none 0 0] (l.length * 2)) 58)).ownsRow w.heap.size 58 2 (.slice (some ⟨w.heap.size, 0, none⟩) 0 l.length) 0 []) := Lib.hid ⟨rfl, Or.inr ⟨w.heap.size, l.length, madeCells #[.int .i64 0, .slice none 0 0] (l.length * 2), rfl, Nat.le_refl _, heap_alloc_new w _, Nat.zero_le _, by unfold maxLen; omega, by simp [size_madeCells], by simp⟩⟩
  have H0 : Hid (HeldsAt w l (.slice (some ⟨w.heap.size, 0, none⟩) 0 l.length) (.int .i64 0) (w.alloc (.cells (madeCells #[.int .i64 0, .slice none 0 0] (l.length * 2)) 58))) := Lib.hid ⟨0, _, _, [], Nat.zero_le _, rfl, rfl, (Grew.refl w).alloc _, HO1.out, .nil⟩
  clear HO1
  generalize w.alloc (.cells (madeCells #[.int .i64 0, .slice none 0 0] (l.length * 2)) 58) = w1 at *
  go_loopw [3, 11] (fun v i wr => HeldsAt w l v i wr) (fun _ i _ => l.length - (intOf i).toNat)
  case atStart => exact H0.out
  case round =>
    obtain ⟨j, A1, c1, css, hj, rfl, rfl, hG⟩ := hrel
    have HG := Lib.hid hG
    clear hG H0
    by_cases h1 : j < l.length
    · obtain ⟨b, o, B, c, rfl, hb, d0, d1, hr⟩ := sstsR_at (RA.out.grew HG.out.grew) h1
      have HS : Hid (∀ W, Grew wr W → Calls Tryz.prog 76 #[.agg #[.int .i64 l[j].rows, .slice B l[j].cols.length c], .int .i64 16] W (HelkF W (heldS l[j] 16))) := Lib.hid fun W hW => kheld27_any l[j] B c 16 (HM.out _ (List.getElem_mem h1)) W (hr.grew hW)
      have HT : Hid (heldAll (l.take (j + 1)) = heldAll (l.take j) ++ [heldS l[j] 16]) := Lib.hid (by unfold heldAll; rw [List.take_succ_eq_append_getElem h1, List.map_append]; rfl)
      have HLn : Hid ((heldAll (l.take j)).length = j) := Lib.hid (by rw [heldAll_len, List.length_take]; omega)
      clear hr
      generalize heldS l[j] 16 = s8 at *
      generalize l[j] = s at *
      go_upto_region 5 with fail
      obtain ⟨w7, hw7⟩ : ∃ w7, w7 = wr.alloc (.cells #[.int .i64 s.rows, .slice B s.cols.length c] 58) := ⟨_, rfl⟩
      have HB7 : Hid (Blok w7 wr.heap.size 58 #[.int .i64 s.rows, .slice B s.cols.length c]) := Lib.hid (by rw [hw7]; exact Blok.new _ _ _ _ rfl)
      have HG7 : Hid (Grew wr w7) := Lib.hid (by rw [hw7]; exact (Grew.refl _).alloc _)
      rw [← hw7]
      clear hw7 d0 d1 hb
      generalize wr.heap.size = g7 at *
      obtain ⟨z1, z2, z3, z4, z5⟩ := boxS2 HB7.out
      go_wp2_with (first | (go_at_call 76; (with_reducible refine (HS.out _ HG7.out).mono ?_); rintro e w8 ⟨B8, k8, rfl, hg8, hr8⟩; have HG8 := Lib.hid (HG.out.on (HG7.out.trans hg8)); have HR8 : Hid (CstsR (TRow w.heap.size w8) B8 s8.cols) := Lib.hid (hr8.imp fun e B xs h => h.low ((HG.out.on HG7.out).grew.size)); clear hg8 hr8) | (at_builtin; refine wpList_appB rfl _ _ 72 58 2 rfl w.heap.size (.agg #[.int .i64 0, .slice none 0 0]) 32 Tryz.underlying72 infoSt rfl (by decide) (by decide) _ j css.flatten rfl (by have := own_alloc HG8.out.own (.cells #[.int .i64 s8.rows, .slice B8 s8.cols.length k8] 58); rw [HLn.out] at this; exact this) _ 1 1 [.int .i64 s8.rows, .slice B8 s8.cols.length k8] rfl rfl (row_new _ _ _ _ rfl) (by intro x hx; simp at hx; rcases hx with rfl | rfl <;> rfl) (by omega) (by rw [World.size_alloc]; have := HG8.out.grew.size; omega) ?_; intro A9 c9 w9 ho9 hg9; have HF := Lib.hid ((HG8.out.on ((Grew.refl _).alloc (.cells #[.int .i64 s8.rows, .slice B8 s8.cols.length k8] 58))).snoc (x := s8) (cs := [.int .i64 s8.rows, .slice B8 s8.cols.length k8]) ⟨B8, k8, rfl, HR8.out.imp (TRow.grewQ ((Grew.refl _).alloc _))⟩ (by rw [HLn.out]; exact ho9) (by rw [HLn.out]; exact hg9)); clear ho9 hg9))
      exact ⟨⟨j + 1, A9, c9, _, by omega, rfl, by go_num, by rw [HT.out]; exact HF.out⟩, by simp only [intOf]; omega⟩
    · obtain rfl : j = l.length := by omega
      have HF : Hid (KheldF w (heldAll l) (.returned (.slice A1 l.length c1)) wr) := Lib.hid (by
        have := HG.out.done
        rw [List.take_length] at this
        exact ⟨A1, c1, by rw [heldAll_len], HG.out.grew, this⟩)
      go_wp2
      go_ret
      exact HF.out
end Go.Proofs.YtbglmcebkpkccaaGreatDoor

/- Layer 29: what is held of anything that is said, by the document, in new memory alone. Condition: no more than a million marks a column. -/
namespace Go.Proofs.YtbglmcebkpkccaaGreatDoor
open Go.RowKit
attribute [local go_sem] more_cell more_frozen more_more more_setCell more_of_drew more_of_drewN lt_more le_more past_cell past_cell2 past_frozen past_frozen2 past_setCell past_setCell2 mid_cell mid_frozen mid_setCell
attribute [local go_sem ↓] Go.wp_at_zero Go.wp_at_succ
set_option maxHeartbeats 8000000 in
set_option maxRecDepth 100000 in
theorem rkheld27_any (s : Sst) (A : Option Addr) (k : Nat) (cols : Int) (hm : ∀ x ∈ s.cols, x.m.length ≤ 1000000) (hsl : s.cols.length ≤ 1000000) (w : World) (ra : CstsR (PRow w) A s.cols) :
    Calls Tryz.prog 87 #[.agg #[.int .i64 s.rows, .slice A s.cols.length k], .int .i64 cols] w (HelkF w (heldS s cols)) := by
  have RA := Lib.hid ra
  have HMl := Lib.hid hm
  have HS0 : Hid (0 ≤ cutI s.rows) := Lib.hid (cutI_s s.rows).1
  have HFin : Hid (∀ B j W, Grew w W → CstsR (TRow w.heap.size W) B (heldP s (heldN cols)) → HelkF w (heldS s cols) (.returned (.agg #[.int .i64 (cutI s.rows), .slice B (heldN cols) j])) W) := Lib.hid fun B j W hW hR => ⟨B, j, by show _ = Ending.returned (.agg #[.int .i64 (cutI s.rows), .slice B (heldP s (heldN cols)).length j]); rw [heldP_len], hW, hR⟩
  have hN := heldN_le cols
  have eN : nearI cols 16 = (heldN cols : Int) := by
    unfold heldN
    have := nearI_in (n := cols) (high := 16) (by decide)
    omega
  have HNc := Lib.hid (rnear_any cols 16)
  rw [eN] at HNc
  clear hm ra eN
  generalize hNN : heldN cols = N at *
  clear hNN
  generalize HelkF w (heldS s cols) = F at *
  obtain ⟨W0, hW0⟩ : ∃ W0, W0 = ((w.alloc (.cells #[.int .i64 s.rows, .slice A s.cols.length k] 58)).alloc (.cells #[.int .i64 0, .slice none 0 0] 58)).alloc (.cells #[.int .i64 (cutI s.rows), .slice none 0 0] 58) := ⟨_, rfl⟩
  have HI0 : Hid (HelkI w w.heap.size (w.heap.size + 1) (w.heap.size + 2) #[.int .i64 s.rows, .slice A s.cols.length k] #[.int .i64 0, .slice none 0 0] s 0 none 0 [] W0) := Lib.hid (by
    rw [hW0]
    exact ⟨(((Grew.refl w).alloc _).alloc _).alloc _, ((Blok.new _ _ _ _ rfl).alloc _).alloc _, (Blok.new _ _ _ _ (by simp)).alloc _, Blok.new _ _ _ _ (by simp), own_none _ _ _ _, ListR.nil⟩)
  go_enter Tryz.func87, Tryz.ntmps87
  go_upto_region 2 with (first | (go_at_call 85; refine (rcut_any _ _).mono ?_; rintro e w' ⟨rfl, rfl⟩))
  rw [← hW0]
  clear hW0
  have hu5 : w.heap.size ≤ w.heap.size + 2 := by omega
  have h05 : w.heap.size < w.heap.size + 2 := by omega
  have h45 : w.heap.size + 1 < w.heap.size + 2 := by omega
  generalize hg5 : w.heap.size + 2 = g5 at *
  generalize hg4 : w.heap.size + 1 = g4 at *
  generalize hg0 : w.heap.size = g0 at *
  go_wp2
  go_loopw [6] (fun v wr => HelkAt w g0 g4 g5 #[.int .i64 s.rows, .slice A s.cols.length k] #[.int .i64 0, .slice none 0 0] s N v wr) (fun v _ => N - (intOf v).toNat)
  case atStart => exact ⟨0, none, 0, [], Nat.zero_le _, rfl, HI0.out⟩
  case round =>
    obtain ⟨i, A', c, css, hi, rfl, hI0⟩ := hrel
    go_wp2_with fail
    refine (HNc.out _).grows.mono ?_
    rintro e ws ⟨rfl, hgs⟩
    have hI := hI0.on hgs
    clear hI0 hgs HI0
    clear wr
    obtain ⟨wr, rfl⟩ : ∃ wr : World, wr = ws := ⟨_, rfl⟩
    have HI := Lib.hid hI
    obtain ⟨x1, x2, x3⟩ := boxS hI.b0
    have hwl := hI.b5.lt
    clear hI
    by_cases h : i < N
    · by_cases h2 : i < s.cols.length
      · obtain ⟨b, o, B, j, rfl, hb0, d0, d1, d2, hcap, hr⟩ := cstsR_at RA.out h2
        have HRw := Lib.hid (fun W (hW : Grew w W) => hr.grew hW)
        have hgw := HI.out.grew
        have hb := Nat.lt_of_lt_of_le hb0 hgw.size
        have c0 := (hgw.cell (a := ⟨b, o + i * 3, none⟩) hb0).trans d0
        have c1 := (hgw.cell (a := ⟨b, o + i * 3 + 1, none⟩) hb0).trans d1
        have c2 := (hgw.cell (a := ⟨b, o + i * 3 + 2, none⟩) hb0).trans d2
        have hX : colAt s i = s.cols[i] := by
          unfold colAt
          rw [List.getD_eq_getElem?_getD, List.getElem?_eq_getElem h2]
          rfl
        have hml := HMl.out _ (List.getElem_mem h2)
        have HX := Lib.hid hX
        clear hX d0 d1 d2 hb0 hr hgw HMl RA HNc HFin
        generalize s.cols[i] = x at *
        obtain ⟨u, n, m⟩ := x
        simp only at *
        go_upto_region 8 with fail
        obtain ⟨w7, hw7e⟩ : ∃ w7, w7 = wr.alloc (.cells #[.int .i64 u, .int .i64 n, .slice B m.length j] 109) := ⟨_, rfl⟩
        have HB7 : Hid (Blok w7 wr.heap.size 109 #[.int .i64 u, .int .i64 n, .slice B m.length j]) := Lib.hid (by rw [hw7e]; exact Blok.new _ _ _ _ rfl)
        have hG7 : Grew wr w7 := by rw [hw7e]; exact (Grew.refl wr).alloc _
        have hs7 : wr.heap.size ≤ wr.heap.size := Nat.le_refl _
        rw [← hw7e]
        clear hw7e c0 c1 c2 x1 x2 x3 hb
        obtain ⟨g7, hg7⟩ : ∃ g7, wr.heap.size = g7 := ⟨_, rfl⟩
        rw [hg7] at HB7 ⊢
        replace hs7 : wr.heap.size ≤ g7 := by omega
        have HG7 : Hid (Grew wr w7) := Lib.hid hG7
        have HI7 := Lib.hid (HI.out.on hG7)
        have hw7 : wr.heap.size ≤ g7 := hs7
        have h57 : g5 ≠ g7 := by have := HI.out.b5.lt; omega
        have h75 : g7 ≠ g5 := by have := HI.out.b5.lt; omega
        have HRc : Hid (heldC (cutI s.rows) (colAt s i) = heldC (cutI s.rows) ⟨u, n, m⟩) := Lib.hid (by rw [HX.out])
        have HSI : Hid (sI (cutI s.rows)) := Lib.hid (cutI_s s.rows)
        obtain ⟨z1, z2, z3, z4, z5⟩ := boxS2 HI7.out.b5
        obtain ⟨y1, y2, y3, y4, y5, y6, y7⟩ := boxC HB7.out
        obtain ⟨rc, hrc⟩ : ∃ rc, cutI s.rows = rc := ⟨_, rfl⟩
        rw [hrc] at z2 HRc HSI HS0
        have HRq := Lib.hid hrc
        clear hrc
        have hnn0 := nearI_in (n := n) HS0.out
        have HN1 := Lib.hid (rnear_any n rc)
        obtain ⟨nn, hnn⟩ : ∃ nn, nearI n rc = nn := ⟨_, rfl⟩
        rw [hnn] at hnn0 HN1
        obtain ⟨d, hd⟩ : ∃ d, rc - nn = d := ⟨_, rfl⟩
        have e3 : IntKind.i64.wrap (rc - nn) = d := by
          rw [← hd]
          exact IntWalk.i64_in _ (by have := HSI.out; unfold sI at this; omega)
        have HN2 := Lib.hid (rnear_any u d)
        have HN3 := Lib.hid (rnear_any (m.length : Int) 9)
        obtain ⟨uu, huu⟩ : ∃ uu, nearI u d = uu := ⟨_, rfl⟩
        rw [huu] at HN2
        obtain ⟨mq, hmq⟩ : ∃ mq, m.take 9 = mq := ⟨_, rfl⟩
        have hml9 : mq.length = min 9 m.length := by rw [← hmq, List.length_take]
        have e6 : nearI (m.length : Int) 9 = (mq.length : Nat) := by
          rw [← near_min _ _ (by decide)]
          omega
        rw [e6] at HN3
        have hmq1 : mq.length ≤ m.length := by omega
        have hqj : (mq.length : Int) ≤ (j : Int) := by omega
        have HC1 : Hid (heldC rc ⟨u, n, m⟩ = ⟨uu, nn, sortI mq⟩) := Lib.hid (by
          unfold heldC
          simp only
          rw [hnn, hd, huu, hmq])
        have HMq : Hid (∀ W, Grew w W → Row W B (iV mq)) := Lib.hid fun W hW => by
          rw [← hmq]
          exact row_takeI (HRw.out W hW) 9
        have hq9 : mq.length ≤ 9 := by omega
        clear hnn0 hnn hd huu hmq hml9 HX HS0 HSI hml e6 HRw
        go_wp2_with fail
        refine (HN1.out w7).grows.mono ?_
        rintro e w8 ⟨rfl, hg8⟩
        have HG8 := Lib.hid (HG7.out.trans hg8)
        have HB8 := Lib.hid (HB7.out.grew hg8)
        have HI8 := Lib.hid (HI7.out.on hg8)
        clear y1 y2 y3 y4 y5 y6 y7 z1 z2 z3 z4 z5 hg8 HB7 HI7 HN1 HG7 hG7
        obtain ⟨y1, y2, y3, y4, y5, y6, y7⟩ := boxC HB8.out
        obtain ⟨z1, z2, z3, z4, z5⟩ := boxS2 HI8.out.b5
        rw [HRq.out] at z2
        go_upto_region 9 with fail
        have HB9 : Hid (Blok (w8.setCell ⟨g7, 1, none⟩ (.int .i64 nn)) g7 109 #[.int .i64 u, .int .i64 nn, .slice B m.length j]) := Lib.hid (by
          have := HB8.out.set 1 (.int .i64 nn)
          simpa using this)
        have HG9 : Hid (Grew wr (w8.setCell ⟨g7, 1, none⟩ (.int .i64 nn))) := Lib.hid (Grew.setCell HG8.out (a := ⟨g7, 1, none⟩) hw7 _)
        have HI9 := Lib.hid (HI.out.on HG9.out)
        clear y1 y2 y3 y4 y5 y6 y7 z1 z2 z3 z4 z5 HB8 HI8 HG8
        generalize (w8.setCell ⟨g7, 1, none⟩ (.int .i64 nn)) = w9 at *
        obtain ⟨y1, y2, y3, y4, y5, y6, y7⟩ := boxC HB9.out
        obtain ⟨z1, z2, z3, z4, z5⟩ := boxS2 HI9.out.b5
        rw [HRq.out] at z2
        go_wp2_with fail
        refine (HN2.out w9).grows.mono ?_
        rintro e w10 ⟨rfl, hg10⟩
        have HG10 := Lib.hid (HG9.out.trans hg10)
        have HB10 := Lib.hid (HB9.out.grew hg10)
        clear y1 y2 y3 y4 y5 y6 y7 z1 z2 z3 z4 z5 hg10 HB9 HI9 HN2 HG9 e3
        obtain ⟨y1, y2, y3, y4, y5, y6, y7⟩ := boxC HB10.out
        go_upto_region 10 with fail
        have HB11 : Hid (Blok (w10.setCell ⟨g7, 0, none⟩ (.int .i64 uu)) g7 109 #[.int .i64 uu, .int .i64 nn, .slice B m.length j]) := Lib.hid (by
          have := HB10.out.set 0 (.int .i64 uu)
          simpa using this)
        have HG11 : Hid (Grew wr (w10.setCell ⟨g7, 0, none⟩ (.int .i64 uu))) := Lib.hid (Grew.setCell HG10.out (a := ⟨g7, 0, none⟩) hw7 _)
        clear y1 y2 y3 y4 y5 y6 y7 HB10 HG10
        generalize (w10.setCell ⟨g7, 0, none⟩ (.int .i64 uu)) = w11 at *
        obtain ⟨y1, y2, y3, y4, y5, y6, y7⟩ := boxC HB11.out
        refine wp_region_more_tail 7 (by kernel_rfl) (by kernel_rfl) ?_
        simp only [List.take_succ_cons, List.take_zero, List.drop_succ_cons, List.drop_zero]
        repeat (go_big_quiet_step (((go_at_call 109; with_reducible exact (HN3.out _).within))))
        refine wpQuiet_nil ?_
        rintro _ ⟨z, rfl⟩
        have HG12 := Lib.hid (HG11.out.more z)
        have HB12 := Lib.hid (HB11.out.more z)
        clear y1 y2 y3 y4 y5 y6 y7 HB11 HG11 HN3
        generalize more w11 z = w12 at *
        obtain ⟨y1, y2, y3, y4, y5, y6, y7⟩ := boxC HB12.out
        go_wp2_with fail
        refine (rsortT_any mq (by omega) B j w12 (HMq.out _ (HI.out.grew.trans HG12.out))).mono ?_
        rintro e w13 ⟨B2, j2, rfl, hj2, hg13, ht13⟩
        have HG13 := Lib.hid (HG12.out.trans hg13)
        have HB13 := Lib.hid (HB12.out.grew hg13)
        have hsz12 := HG12.out.size
        have HT13 := Lib.hid (ht13.low (B' := w.heap.size) (by have := HI.out.grew.size; omega))
        have hsl : (sortI mq).length = mq.length := sortI_len mq
        rw [hsl] at hj2 ⊢
        clear y1 y2 y3 y4 y5 y6 y7 hg13 ht13 HB12 HG12 HMq
        obtain ⟨y1, y2, y3, y4, y5, y6, y7⟩ := boxC HB13.out
        go_upto_region 11 with fail
        have HB14 : Hid (Blok (w13.setCell ⟨g7, 2, none⟩ (.slice B2 mq.length j2)) g7 109 #[.int .i64 uu, .int .i64 nn, .slice B2 mq.length j2]) := Lib.hid (by
          have := HB13.out.set 2 (.slice B2 mq.length j2)
          simpa using this)
        have HG14 : Hid (Grew wr (w13.setCell ⟨g7, 2, none⟩ (.slice B2 mq.length j2))) := Lib.hid (Grew.setCell HG13.out (a := ⟨g7, 2, none⟩) hw7 _)
        have HT14 : Hid (TRow w.heap.size (w13.setCell ⟨g7, 2, none⟩ (.slice B2 mq.length j2)) 3 B2 (iV (sortI mq))) := Lib.hid (HT13.out.apart ((Turns.refl w13 g7).set 2 (.slice B2 mq.length j2)) HB13.out neCS)
        clear y1 y2 y3 y4 y5 y6 y7 HB13 HG13 HT13
        generalize (w13.setCell ⟨g7, 2, none⟩ (.slice B2 mq.length j2)) = w14 at *
        have HI14 := Lib.hid (HI.out.on HG14.out)
        have HX14 : Hid (∀ W, Grew w14 W → CstR (TRow w.heap.size W) (heldC rc ⟨u, n, m⟩) [.int .i64 uu, .int .i64 nn, .slice B2 mq.length j2]) := Lib.hid fun W hW => by
          rw [HC1.out]
          refine ⟨B2, j2, ?_, ?_, (HT14.out.grew hW)⟩
          · show _ = [_, _, Value.slice B2 (sortI mq).length j2]
            rw [sortI_len]
          · show (sortI mq).length ≤ j2
            rw [sortI_len]
            exact hj2
        clear HC1 HT14
        obtain ⟨y1, y2, y3, y4, y5, y6, y7⟩ := boxC HB14.out
        obtain ⟨z1, z2, z3, z4, z5⟩ := boxS2 HI14.out.b5
        have hone : ∀ x ∈ [Value.int .i64 uu, .int .i64 nn, .slice B2 mq.length j2], x.oneCell' = true := by
          intro x hx
          simp at hx
          rcases hx with rfl | rfl | rfl <;> rfl
        have HOne := Lib.hid hone
        have HIa := Lib.hid (HI14.out.on ((Grew.refl w14).alloc (.cells #[.int .i64 uu, .int .i64 nn, .slice B2 mq.length j2] 109)))
        have HXa := Lib.hid (HX14.out _ ((Grew.refl w14).alloc (.cells #[.int .i64 uu, .int .i64 nn, .slice B2 mq.length j2] 109)))
        have hg54 : g5 + 1 ≤ w14.heap.size := z1
        clear hone HX14 HG14 z2
        go_wp2_with (at_builtin; refine wpList_appB rfl _ _ 56 109 3 rfl (g5 + 1) (.agg #[.int .i64 0, .int .i64 0, .slice none 0 0]) 40 Tryz.underlying56 infoCs rfl (by decide) (by decide) _ i css.flatten rfl HIa.out.own _ 1 1 [.int .i64 uu, .int .i64 nn, .slice B2 mq.length j2] rfl rfl (row_new _ _ _ _ rfl) HOne.out (by omega) (by rw [World.size_alloc]; omega) ?_; intro A6 c6 w6 ho6 hb6; have HI6 := Lib.hid (HIa.out.snoc (by rw [hg0]; exact hu5) h05 h45 (by rw [HRq.out, HRc.out]; exact HXa.out) ho6 hb6); obtain ⟨v1, v2, v3, v4, v5⟩ := boxS2 (HIa.out.b5.grown hb6 (fun e => by have := own_base HIa.out.own _ e; omega)); clear ho6 hb6 v2)
        exact ⟨⟨i + 1, A6, c6, _, by omega, by go_num, HI6.out⟩, by simp only [intOf]; omega⟩
      · have HX : Hid (colAt s i = ⟨0, 0, []⟩) := Lib.hid (by
          unfold colAt
          rw [List.getD_eq_getElem?_getD, List.getElem?_eq_none (by omega)]
          rfl)
        have h2' : (s.cols.length : Int) ≤ i := by omega
        clear HMl RA HNc HFin
        go_upto_region 8 with fail
        obtain ⟨w7, hw7e⟩ : ∃ w7, w7 = wr.alloc (.cells #[.int .i64 0, .int .i64 0, .slice none 0 0] 109) := ⟨_, rfl⟩
        have HB7' : Hid (Blok w7 wr.heap.size 109 #[.int .i64 0, .int .i64 0, .slice none ([] : List Int).length 0]) := Lib.hid (by rw [hw7e]; exact Blok.new _ _ _ _ rfl)
        have hG7 : Grew wr w7 := by rw [hw7e]; exact (Grew.refl wr).alloc _
        have HRw' : Hid (∀ W, Grew w W → Row W none (iV [])) := Lib.hid fun W _ => Or.inl rfl
        rw [← hw7e]
        clear hw7e x1 x2 x3
        obtain ⟨g7, hg7⟩ : ∃ g7, wr.heap.size = g7 := ⟨_, rfl⟩
        rw [hg7] at HB7' ⊢
        have hs7 : wr.heap.size ≤ g7 := by omega
        obtain ⟨u, n, m, B, j, HB7, HX, HRw, hcap, hml⟩ : ∃ (u n : Int) (m : List Int) (B : Option Addr) (j : Nat), ∃ (_ : Hid (Blok w7 g7 109 #[.int .i64 u, .int .i64 n, .slice B m.length j])) (_ : Hid (colAt s i = ⟨u, n, m⟩)) (_ : Hid (∀ W, Grew w W → Row W B (iV m))), m.length ≤ j ∧ m.length ≤ 1000000 := ⟨0, 0, [], none, 0, HB7', HX, HRw', Nat.le_refl _, Nat.zero_le _⟩
        clear HB7' HRw'
        have HG7 : Hid (Grew wr w7) := Lib.hid hG7
        have HI7 := Lib.hid (HI.out.on hG7)
        have hw7 : wr.heap.size ≤ g7 := hs7
        have h57 : g5 ≠ g7 := by have := HI.out.b5.lt; omega
        have h75 : g7 ≠ g5 := by have := HI.out.b5.lt; omega
        have HRc : Hid (heldC (cutI s.rows) (colAt s i) = heldC (cutI s.rows) ⟨u, n, m⟩) := Lib.hid (by rw [HX.out])
        have HSI : Hid (sI (cutI s.rows)) := Lib.hid (cutI_s s.rows)
        obtain ⟨z1, z2, z3, z4, z5⟩ := boxS2 HI7.out.b5
        obtain ⟨y1, y2, y3, y4, y5, y6, y7⟩ := boxC HB7.out
        obtain ⟨rc, hrc⟩ : ∃ rc, cutI s.rows = rc := ⟨_, rfl⟩
        rw [hrc] at z2 HRc HSI HS0
        have HRq := Lib.hid hrc
        clear hrc
        have hnn0 := nearI_in (n := n) HS0.out
        have HN1 := Lib.hid (rnear_any n rc)
        obtain ⟨nn, hnn⟩ : ∃ nn, nearI n rc = nn := ⟨_, rfl⟩
        rw [hnn] at hnn0 HN1
        obtain ⟨d, hd⟩ : ∃ d, rc - nn = d := ⟨_, rfl⟩
        have e3 : IntKind.i64.wrap (rc - nn) = d := by
          rw [← hd]
          exact IntWalk.i64_in _ (by have := HSI.out; unfold sI at this; omega)
        have HN2 := Lib.hid (rnear_any u d)
        have HN3 := Lib.hid (rnear_any (m.length : Int) 9)
        obtain ⟨uu, huu⟩ : ∃ uu, nearI u d = uu := ⟨_, rfl⟩
        rw [huu] at HN2
        obtain ⟨mq, hmq⟩ : ∃ mq, m.take 9 = mq := ⟨_, rfl⟩
        have hml9 : mq.length = min 9 m.length := by rw [← hmq, List.length_take]
        have e6 : nearI (m.length : Int) 9 = (mq.length : Nat) := by
          rw [← near_min _ _ (by decide)]
          omega
        rw [e6] at HN3
        have hmq1 : mq.length ≤ m.length := by omega
        have hqj : (mq.length : Int) ≤ (j : Int) := by omega
        have HC1 : Hid (heldC rc ⟨u, n, m⟩ = ⟨uu, nn, sortI mq⟩) := Lib.hid (by
          unfold heldC
          simp only
          rw [hnn, hd, huu, hmq])
        have HMq : Hid (∀ W, Grew w W → Row W B (iV mq)) := Lib.hid fun W hW => by
          rw [← hmq]
          exact row_takeI (HRw.out W hW) 9
        have hq9 : mq.length ≤ 9 := by omega
        clear hnn0 hnn hd huu hmq hml9 HX HS0 HSI hml e6 HRw
        go_wp2_with fail
        refine (HN1.out w7).grows.mono ?_
        rintro e w8 ⟨rfl, hg8⟩
        have HG8 := Lib.hid (HG7.out.trans hg8)
        have HB8 := Lib.hid (HB7.out.grew hg8)
        have HI8 := Lib.hid (HI7.out.on hg8)
        clear y1 y2 y3 y4 y5 y6 y7 z1 z2 z3 z4 z5 hg8 HB7 HI7 HN1 HG7 hG7
        obtain ⟨y1, y2, y3, y4, y5, y6, y7⟩ := boxC HB8.out
        obtain ⟨z1, z2, z3, z4, z5⟩ := boxS2 HI8.out.b5
        rw [HRq.out] at z2
        go_upto_region 9 with fail
        have HB9 : Hid (Blok (w8.setCell ⟨g7, 1, none⟩ (.int .i64 nn)) g7 109 #[.int .i64 u, .int .i64 nn, .slice B m.length j]) := Lib.hid (by
          have := HB8.out.set 1 (.int .i64 nn)
          simpa using this)
        have HG9 : Hid (Grew wr (w8.setCell ⟨g7, 1, none⟩ (.int .i64 nn))) := Lib.hid (Grew.setCell HG8.out (a := ⟨g7, 1, none⟩) hw7 _)
        have HI9 := Lib.hid (HI.out.on HG9.out)
        clear y1 y2 y3 y4 y5 y6 y7 z1 z2 z3 z4 z5 HB8 HI8 HG8
        generalize (w8.setCell ⟨g7, 1, none⟩ (.int .i64 nn)) = w9 at *
        obtain ⟨y1, y2, y3, y4, y5, y6, y7⟩ := boxC HB9.out
        obtain ⟨z1, z2, z3, z4, z5⟩ := boxS2 HI9.out.b5
        rw [HRq.out] at z2
        go_wp2_with fail
        refine (HN2.out w9).grows.mono ?_
        rintro e w10 ⟨rfl, hg10⟩
        have HG10 := Lib.hid (HG9.out.trans hg10)
        have HB10 := Lib.hid (HB9.out.grew hg10)
        clear y1 y2 y3 y4 y5 y6 y7 z1 z2 z3 z4 z5 hg10 HB9 HI9 HN2 HG9 e3
        obtain ⟨y1, y2, y3, y4, y5, y6, y7⟩ := boxC HB10.out
        go_upto_region 10 with fail
        have HB11 : Hid (Blok (w10.setCell ⟨g7, 0, none⟩ (.int .i64 uu)) g7 109 #[.int .i64 uu, .int .i64 nn, .slice B m.length j]) := Lib.hid (by
          have := HB10.out.set 0 (.int .i64 uu)
          simpa using this)
        have HG11 : Hid (Grew wr (w10.setCell ⟨g7, 0, none⟩ (.int .i64 uu))) := Lib.hid (Grew.setCell HG10.out (a := ⟨g7, 0, none⟩) hw7 _)
        clear y1 y2 y3 y4 y5 y6 y7 HB10 HG10
        generalize (w10.setCell ⟨g7, 0, none⟩ (.int .i64 uu)) = w11 at *
        obtain ⟨y1, y2, y3, y4, y5, y6, y7⟩ := boxC HB11.out
        refine wp_region_more_tail 7 (by kernel_rfl) (by kernel_rfl) ?_
        simp only [List.take_succ_cons, List.take_zero, List.drop_succ_cons, List.drop_zero]
        repeat (go_big_quiet_step (((go_at_call 109; with_reducible exact (HN3.out _).within))))
        refine wpQuiet_nil ?_
        rintro _ ⟨z, rfl⟩
        have HG12 := Lib.hid (HG11.out.more z)
        have HB12 := Lib.hid (HB11.out.more z)
        clear y1 y2 y3 y4 y5 y6 y7 HB11 HG11 HN3
        generalize more w11 z = w12 at *
        obtain ⟨y1, y2, y3, y4, y5, y6, y7⟩ := boxC HB12.out
        go_wp2_with fail
        refine (rsortT_any mq (by omega) B j w12 (HMq.out _ (HI.out.grew.trans HG12.out))).mono ?_
        rintro e w13 ⟨B2, j2, rfl, hj2, hg13, ht13⟩
        have HG13 := Lib.hid (HG12.out.trans hg13)
        have HB13 := Lib.hid (HB12.out.grew hg13)
        have hsz12 := HG12.out.size
        have HT13 := Lib.hid (ht13.low (B' := w.heap.size) (by have := HI.out.grew.size; omega))
        have hsl : (sortI mq).length = mq.length := sortI_len mq
        rw [hsl] at hj2 ⊢
        clear y1 y2 y3 y4 y5 y6 y7 hg13 ht13 HB12 HG12 HMq
        obtain ⟨y1, y2, y3, y4, y5, y6, y7⟩ := boxC HB13.out
        go_upto_region 11 with fail
        have HB14 : Hid (Blok (w13.setCell ⟨g7, 2, none⟩ (.slice B2 mq.length j2)) g7 109 #[.int .i64 uu, .int .i64 nn, .slice B2 mq.length j2]) := Lib.hid (by
          have := HB13.out.set 2 (.slice B2 mq.length j2)
          simpa using this)
        have HG14 : Hid (Grew wr (w13.setCell ⟨g7, 2, none⟩ (.slice B2 mq.length j2))) := Lib.hid (Grew.setCell HG13.out (a := ⟨g7, 2, none⟩) hw7 _)
        have HT14 : Hid (TRow w.heap.size (w13.setCell ⟨g7, 2, none⟩ (.slice B2 mq.length j2)) 3 B2 (iV (sortI mq))) := Lib.hid (HT13.out.apart ((Turns.refl w13 g7).set 2 (.slice B2 mq.length j2)) HB13.out neCS)
        clear y1 y2 y3 y4 y5 y6 y7 HB13 HG13 HT13
        generalize (w13.setCell ⟨g7, 2, none⟩ (.slice B2 mq.length j2)) = w14 at *
        have HI14 := Lib.hid (HI.out.on HG14.out)
        have HX14 : Hid (∀ W, Grew w14 W → CstR (TRow w.heap.size W) (heldC rc ⟨u, n, m⟩) [.int .i64 uu, .int .i64 nn, .slice B2 mq.length j2]) := Lib.hid fun W hW => by
          rw [HC1.out]
          refine ⟨B2, j2, ?_, ?_, (HT14.out.grew hW)⟩
          · show _ = [_, _, Value.slice B2 (sortI mq).length j2]
            rw [sortI_len]
          · show (sortI mq).length ≤ j2
            rw [sortI_len]
            exact hj2
        clear HC1 HT14
        obtain ⟨y1, y2, y3, y4, y5, y6, y7⟩ := boxC HB14.out
        obtain ⟨z1, z2, z3, z4, z5⟩ := boxS2 HI14.out.b5
        have hone : ∀ x ∈ [Value.int .i64 uu, .int .i64 nn, .slice B2 mq.length j2], x.oneCell' = true := by
          intro x hx
          simp at hx
          rcases hx with rfl | rfl | rfl <;> rfl
        have HOne := Lib.hid hone
        have HIa := Lib.hid (HI14.out.on ((Grew.refl w14).alloc (.cells #[.int .i64 uu, .int .i64 nn, .slice B2 mq.length j2] 109)))
        have HXa := Lib.hid (HX14.out _ ((Grew.refl w14).alloc (.cells #[.int .i64 uu, .int .i64 nn, .slice B2 mq.length j2] 109)))
        have hg54 : g5 + 1 ≤ w14.heap.size := z1
        clear hone HX14 HG14 z2
        go_wp2_with (at_builtin; refine wpList_appB rfl _ _ 56 109 3 rfl (g5 + 1) (.agg #[.int .i64 0, .int .i64 0, .slice none 0 0]) 40 Tryz.underlying56 infoCs rfl (by decide) (by decide) _ i css.flatten rfl HIa.out.own _ 1 1 [.int .i64 uu, .int .i64 nn, .slice B2 mq.length j2] rfl rfl (row_new _ _ _ _ rfl) HOne.out (by omega) (by rw [World.size_alloc]; omega) ?_; intro A6 c6 w6 ho6 hb6; have HI6 := Lib.hid (HIa.out.snoc (by rw [hg0]; exact hu5) h05 h45 (by rw [HRq.out, HRc.out]; exact HXa.out) ho6 hb6); obtain ⟨v1, v2, v3, v4, v5⟩ := boxS2 (HIa.out.b5.grown hb6 (fun e => by have := own_base HIa.out.own _ e; omega)); clear ho6 hb6 v2)
        exact ⟨⟨i + 1, A6, c6, _, by omega, by go_num, HI6.out⟩, by simp only [intOf]; omega⟩
    · obtain rfl : i = N := by omega
      have HD := Lib.hid (HI.out.res (by rw [hg0]; omega) h45 (.int .i64 (cutI s.rows)) (.slice A' i c))
      have HE := Lib.hid (HFin.out A' c _ HD.out.1 (by have := HD.out.2; rw [hg0] at this; exact this))
      obtain ⟨z1, z2, z3, z4, z5⟩ := boxS2 HI.out.b5
      obtain ⟨y1, y2, y3, y4, y5⟩ := boxS2 HI.out.b4
      have HB4 := Lib.hid HI.out.b4
      clear HFin HMl RA HNc x1 x2 x3 HD
      go_wp2
      have bf := (HB4.out.set 0 (.int .i64 (cutI s.rows))).set 1 (.slice A' i c)
      have q0 := bf.cell 0
      have q1 := bf.cell 1
      simp at q0 q1
      exact bodyPost_ret (v := .agg #[.int .i64 (cutI s.rows), .slice A' i c]) (by simp [results, Tryz.results87, go_sem, q0, q1]) rfl HE.out
end Go.Proofs.YtbglmcebkpkccaaGreatDoor

/- Layer 29: what is said of a table and of its column; shares of pairs and of marks: by the document. Condition: no more than a million columns and marks, what is said in memory that is there. -/
namespace Go.Proofs.YtbglmcebkpkccaaGreatDoor
open Go.RowKit
attribute [local go_sem] more_cell more_frozen more_more more_setCell more_of_drew more_of_drewN lt_more le_more past_cell past_cell2 past_frozen past_frozen2 past_setCell past_setCell2 mid_cell mid_frozen mid_setCell
attribute [local go_sem] fldC0 fldC1 fldS0
attribute [local go_sem ↓] Go.wp_at_zero Go.wp_at_succ

/-- What is said of tables has no more than a million columns and marks. -/
def LitSd (l : List Sst) : Prop := ∀ s ∈ l, s.cols.length ≤ 1000000 ∧ ∀ x ∈ s.cols, x.m.length ≤ 1000000
def saidK (l : List Sst) (t : Int) : Sst := if 0 ≤ t ∧ t < l.length then heldS (l.getD t.toNat default) 16 else heldS default 16
theorem heldS_len (s : Sst) : (heldS s 16).cols.length = 16 := by
  show (heldP s (heldN 16)).length = 16
  rw [heldP_len]
  rfl
theorem saidK_len (l : List Sst) (t : Int) : (saidK l t).cols.length = 16 := by unfold saidK; split <;> exact heldS_len _
theorem saidK_ok (l : List Sst) (t : Int) : OkS (saidK l t) := by unfold saidK; split <;> exact heldS_ok _ _
theorem heldAll_getD (l : List Sst) {t : Nat} (h : t < l.length) : (heldAll l).getD t default = heldS (l.getD t default) 16 := by
  unfold heldAll
  rw [List.getD_eq_getElem?_getD, List.getD_eq_getElem?_getD, List.getElem?_map, List.getElem?_eq_getElem h]
  rfl
theorem saidK_rows (l : List Sst) (t : Int) : (saidK l t).rows = rowsK (heldAll l) t := by
  unfold saidK rowsK
  rw [heldAll_len]
  by_cases h : 0 ≤ t ∧ t < l.length
  · rw [if_pos h, if_pos h, heldAll_getD l (by omega)]
  · rw [if_neg h, if_neg h]
    rfl
theorem none_held : ∀ x ∈ (heldS default 16).cols, x = default := by
  intro x hx
  change x ∈ heldP default (heldN 16) at hx
  unfold heldP at hx
  obtain ⟨i, _, rfl⟩ := List.mem_map.1 hx
  have h1 : colAt default i = default := by
    unfold colAt
    show ([] : List Cst).getD i default = default
    rfl
  have h2 : sortI [] = [] := List.eq_nil_of_length_eq_zero (by rw [sortI_len]; rfl)
  rw [h1]
  unfold heldC
  show (⟨_, _, sortI []⟩ : Cst) = _
  rw [h2]
  rfl
theorem none_col (c : Int) : colI (heldS default 16).cols c = default := by
  unfold colI
  split
  · rw [List.getD_eq_getElem?_getD]
    cases hx : (heldS default 16).cols[c.toNat]? with
    | none => rfl
    | some x => exact none_held x (List.mem_of_getElem? hx)
  · rfl
theorem saidK_col (l : List Sst) (t c : Int) : colI (saidK l t).cols c = colK (heldAll l) t c := by
  unfold saidK colK
  rw [heldAll_len]
  by_cases h : 0 ≤ t ∧ t < l.length
  · rw [if_pos h, if_pos h, heldAll_getD l (by omega)]
  · rw [if_neg h, if_neg h]
    exact none_col c
theorem box2 {w : World} {g : Nat} {T : TypeId} {v0 v1 : Value} (h : Blok w g T #[v0, v1]) (a b : Value) : Blok ((w.setCell ⟨g, 0, none⟩ a).setCell ⟨g, 1, none⟩ b) g T #[a, b] := by
  have := (h.set 0 a).set 1 b
  simpa using this
theorem helk_set {u w : World} {g : Nat} {cs : Array Value} {B : Option Addr} {l : List Cst} (h : CstsR (TRow u.heap.size w) B l) (hb : Blok w g 58 cs) (v0 v1 : Value) : CstsR (TRow u.heap.size ((w.setCell ⟨g, 0, none⟩ v0).setCell ⟨g, 1, none⟩ v1)) B l := by
  have k := ((Turns.refl w g).set 0 v0).set 1 v1
  obtain ⟨css, h1, h2⟩ := h
  exact ⟨css, h1.map fun x cs hx => hx.imp fun B xs hm => hm.apart k hb neST, h2.apart k hb neCT⟩
set_option maxRecDepth 100000 in
theorem rsaid_any (l : List Sst) (hl : LitSd l) (t : Int) (A : Option Addr) (k : Nat) (w : World) (ra : SstsR (PRow w) A l) :
    Calls Tryz.prog 43 #[.slice A l.length k, .int .i64 t] w (HelkF w (saidK l t)) := by
  have hB0 : Blok (w.alloc (.cells #[.int .i64 0, .slice none 0 0] 58)) w.heap.size 58 #[.int .i64 0, .slice none 0 0] := Blok.new _ _ _ _ rfl
  have HB0 := Lib.hid hB0
  have HFin : Hid (∀ (s : Sst) (w2 : World) (B : Option Addr) (j : Nat), Grew (w.alloc (.cells #[.int .i64 0, .slice none 0 0] 58)) w2 → CstsR (TRow (w.alloc (.cells #[.int .i64 0, .slice none 0 0] 58)).heap.size w2) B s.cols →
      Blok ((w2.setCell ⟨w.heap.size, 0, none⟩ (.int .i64 s.rows)).setCell ⟨w.heap.size, 1, none⟩ (.slice B s.cols.length j)) w.heap.size 58 #[.int .i64 s.rows, .slice B s.cols.length j] ∧
      HelkF w s (.returned (.agg #[.int .i64 s.rows, .slice B s.cols.length j])) ((w2.setCell ⟨w.heap.size, 0, none⟩ (.int .i64 s.rows)).setCell ⟨w.heap.size, 1, none⟩ (.slice B s.cols.length j))) := Lib.hid fun s w2 B j hg hr => by
    have hb := hB0.grew hg
    refine ⟨box2 hb _ _, B, j, rfl, Grew.setCell (Grew.setCell (((Grew.refl w).alloc _).trans hg) (a := ⟨w.heap.size, 0, none⟩) (Nat.le_refl _) _) (a := ⟨w.heap.size, 1, none⟩) (Nat.le_refl _) _, ?_⟩
    exact (helk_set hr hb _ _).imp fun e B xs h => h.low (by rw [World.size_alloc]; omega)
  clear hB0
  rcases k_cases l.length t with h | ⟨h1, h2⟩ | ⟨i, rfl, hi⟩
  · rw [show saidK l t = heldS default 16 by unfold saidK; rw [if_neg (by omega)]]
    have HS : Hid (∀ W, Calls Tryz.prog 87 #[.agg #[.int .i64 0, .slice none 0 0], .int .i64 16] W (HelkF W (heldS default 16))) := Lib.hid fun W => rkheld27_any default none 0 16 (fun x hx => by cases hx) (Nat.zero_le _) W ⟨[], .nil, Or.inl rfl⟩
    clear ra hl
    generalize heldS default 16 = s at *
    go_enter Tryz.func43, Tryz.ntmps43
    go_wp2_with fail
    refine (HS.out _).mono ?_
    rintro e w2 ⟨B2, j2, rfl, hg2, hr2⟩
    have hB := HB0.out.grew hg2
    obtain ⟨HBf, HF⟩ := HFin.out s w2 B2 j2 hg2 hr2
    obtain ⟨z1, z2, z3, z4, z5⟩ := boxS2 hB
    have HB1 := Lib.hid HBf
    have HF1 := Lib.hid HF
    clear hg2 hr2 HBf HF hB HFin HB0
    go_wp2
    clear z1 z2 z3 z4 z5
    generalize ((w2.setCell ⟨w.heap.size, 0, none⟩ (.int .i64 s.rows)).setCell ⟨w.heap.size, 1, none⟩ (.slice B2 s.cols.length j2)) = Wf at *
    have r0 := HB1.out.cell 0
    have r1 := HB1.out.cell 1
    simp at r0 r1
    exact bodyPost_ret (v := .agg #[.int .i64 s.rows, .slice B2 s.cols.length j2]) (by simp [results, Tryz.results43, go_sem, r0, r1]) rfl HF1.out
  · rw [show saidK l t = heldS default 16 by unfold saidK; rw [if_neg (by omega)]]
    have HS : Hid (∀ W, Calls Tryz.prog 87 #[.agg #[.int .i64 0, .slice none 0 0], .int .i64 16] W (HelkF W (heldS default 16))) := Lib.hid fun W => rkheld27_any default none 0 16 (fun x hx => by cases hx) (Nat.zero_le _) W ⟨[], .nil, Or.inl rfl⟩
    have t1 : decide (t < (0 : Int)) = false := decide_eq_false (by omega)
    clear ra hl
    generalize heldS default 16 = s at *
    go_enter Tryz.func43, Tryz.ntmps43
    go_wp2_with fail
    refine (HS.out _).mono ?_
    rintro e w2 ⟨B2, j2, rfl, hg2, hr2⟩
    have hB := HB0.out.grew hg2
    obtain ⟨HBf, HF⟩ := HFin.out s w2 B2 j2 hg2 hr2
    obtain ⟨z1, z2, z3, z4, z5⟩ := boxS2 hB
    have HB1 := Lib.hid HBf
    have HF1 := Lib.hid HF
    clear hg2 hr2 HBf HF hB HFin HB0
    go_wp2
    clear z1 z2 z3 z4 z5
    generalize ((w2.setCell ⟨w.heap.size, 0, none⟩ (.int .i64 s.rows)).setCell ⟨w.heap.size, 1, none⟩ (.slice B2 s.cols.length j2)) = Wf at *
    have r0 := HB1.out.cell 0
    have r1 := HB1.out.cell 1
    simp at r0 r1
    exact bodyPost_ret (v := .agg #[.int .i64 s.rows, .slice B2 s.cols.length j2]) (by simp [results, Tryz.results43, go_sem, r0, r1]) rfl HF1.out
  · rw [show saidK l i = heldS l[i] 16 by unfold saidK; rw [if_pos (by omega), Int.toNat_natCast, List.getD_eq_getElem?_getD, List.getElem?_eq_getElem hi]; rfl]
    obtain ⟨b, o, B, kb, rfl, hb, c0, c1, hr⟩ := sstsR_at ra hi
    have h1 : ((i : Nat) : Int) < (l.length : Int) := by omega
    have hlt := hl _ (List.getElem_mem hi)
    have HS : Hid (∀ W, Grew w W → Calls Tryz.prog 87 #[.agg #[.int .i64 l[i].rows, .slice B l[i].cols.length kb], .int .i64 16] W (HelkF W (heldS l[i] 16))) := Lib.hid fun W hW => rkheld27_any l[i] B kb 16 hlt.2 hlt.1 W (hr.grew hW)
    clear ra hr hl hlt
    generalize heldS l[i] 16 = s at *
    generalize l[i] = s0 at *
    go_enter Tryz.func43, Tryz.ntmps43
    go_wp2_with fail
    refine (HS.out _ ((Grew.refl w).alloc _)).mono ?_
    rintro e w2 ⟨B2, j2, rfl, hg2, hr2⟩
    have hB := HB0.out.grew hg2
    obtain ⟨HBf, HF⟩ := HFin.out s w2 B2 j2 hg2 hr2
    obtain ⟨z1, z2, z3, z4, z5⟩ := boxS2 hB
    have HB1 := Lib.hid HBf
    have HF1 := Lib.hid HF
    clear hg2 hr2 HBf HF hB HFin HB0 c0 c1
    go_wp2
    clear z1 z2 z3 z4 z5
    generalize ((w2.setCell ⟨w.heap.size, 0, none⟩ (.int .i64 s.rows)).setCell ⟨w.heap.size, 1, none⟩ (.slice B2 s.cols.length j2)) = Wf at *
    have r0 := HB1.out.cell 0
    have r1 := HB1.out.cell 1
    simp at r0 r1
    exact bodyPost_ret (v := .agg #[.int .i64 s.rows, .slice B2 s.cols.length j2]) (by simp [results, Tryz.results43, go_sem, r0, r1]) rfl HF1.out
end Go.Proofs.YtbglmcebkpkccaaGreatDoor

namespace Go.Proofs.YtbglmcebkpkccaaGreatDoor
open Go.RowKit
attribute [local go_sem] more_cell more_frozen more_more more_setCell more_of_drew more_of_drewN lt_more le_more past_cell past_cell2 past_frozen past_frozen2 past_setCell past_setCell2 mid_cell mid_frozen mid_setCell
attribute [local go_sem] fldC0 fldC1 fldS0
attribute [local go_sem ↓] Go.wp_at_zero Go.wp_at_succ

theorem helk_plain {b0 : Nat} {w : World} {B : Option Addr} {l : List Cst} (h : CstsR (TRow b0 w) B l) : CstsR (PRow w) B l := h.imp fun _ _ _ h => h.plain
theorem helk_at {b0 : Nat} {w : World} {A : Option Addr} {l : List Cst} (h : CstsR (TRow b0 w) A l) {i : Nat} (hi : i < l.length) :
    ∃ b o B k, A = some ⟨b, o, none⟩ ∧ b < w.heap.size ∧ w.cell? ⟨b, o + i * 3, none⟩ = some (.int .i64 l[i].u) ∧ w.cell? ⟨b, o + i * 3 + 1, none⟩ = some (.int .i64 l[i].n) ∧ w.cell? ⟨b, o + i * 3 + 2, none⟩ = some (.slice B l[i].m.length k) ∧ TRow b0 w 3 B (iV l[i].m) := by
  obtain ⟨css, h1, h2⟩ := h
  obtain ⟨b, o, cs, hA, hb, hr, _, hc⟩ := h1.at_ h2.plain (by decide) hi
  obtain ⟨B, k, rfl, hk, hx⟩ := hr
  exact ⟨b, o, B, k, hA, hb, hc 0 _ rfl, hc 1 _ rfl, hc 2 _ rfl, hx⟩
set_option maxRecDepth 100000 in
theorem rcol_any (l : List Sst) (hl : LitSd l) (t c : Int) (A : Option Addr) (k : Nat) (w : World) (ra : SstsR (PRow w) A l) :
    Calls Tryz.prog 82 #[.slice A l.length k, .int .i64 t, .int .i64 c] w (KolF w (colK (heldAll l) t c)) := by
  have HS : Hid (∀ W, Grew w W → Calls Tryz.prog 43 #[.slice A l.length k, .int .i64 t] W (HelkF W (saidK l t))) := Lib.hid fun W hW => rsaid_any l hl t A k W (ra.grew hW)
  have HB0 : Hid (Blok (w.alloc (.cells #[.int .i64 0, .int .i64 0, .slice none 0 0] 109)) w.heap.size 109 #[.int .i64 0, .int .i64 0, .slice none 0 0]) := Lib.hid (Blok.new _ _ _ _ rfl)
  have HFin : Hid (∀ (x : Cst) (W : World) (B : Option Addr) (L j b0 : Nat), w.heap.size ≤ b0 → L = x.m.length → Grew w W → Blok W w.heap.size 109 #[.int .i64 0, .int .i64 0, .slice none 0 0] → TRow b0 W 3 B (iV x.m) →
      Blok (((W.setCell ⟨w.heap.size, 0, none⟩ (.int .i64 x.u)).setCell ⟨w.heap.size, 1, none⟩ (.int .i64 x.n)).setCell ⟨w.heap.size, 2, none⟩ (.slice B L j)) w.heap.size 109 #[.int .i64 x.u, .int .i64 x.n, .slice B L j] ∧
      KolF w x (.returned (.agg #[.int .i64 x.u, .int .i64 x.n, .slice B L j])) (((W.setCell ⟨w.heap.size, 0, none⟩ (.int .i64 x.u)).setCell ⟨w.heap.size, 1, none⟩ (.int .i64 x.n)).setCell ⟨w.heap.size, 2, none⟩ (.slice B L j))) := Lib.hid fun x W B L j b0 hb0 hL hg hb hr => by
    subst hL
    refine ⟨box3 hb _ _ _, B, j, rfl, Grew.setCell (Grew.setCell (Grew.setCell hg (a := ⟨w.heap.size, 0, none⟩) (Nat.le_refl _) _) (a := ⟨w.heap.size, 1, none⟩) (Nat.le_refl _) _) (a := ⟨w.heap.size, 2, none⟩) (Nat.le_refl _) _, ?_⟩
    exact (hr.apart ((((Turns.refl W w.heap.size).set 0 _).set 1 _).set 2 _) hb neCS).low hb0
  have hlen := saidK_len l t
  have hcol := saidK_col l t c
  rw [← hcol]
  clear hcol ra hl
  generalize saidK l t = s at *
  rcases k_cases 16 c with h | ⟨h1, h2⟩ | ⟨i, rfl, hi⟩
  · rw [show colI s.cols c = default by unfold colI; rw [if_neg (by omega)]]
    go_enter Tryz.func82, Tryz.ntmps82
    go_wp2_with fail
    refine (HS.out _ ((Grew.refl w).alloc _)).mono ?_
    rintro e w2 ⟨B2, j2, rfl, hg2, hr2⟩
    have HG2 := Lib.hid (((Grew.refl w).alloc (.cells #[.int .i64 0, .int .i64 0, .slice none 0 0] 109)).trans hg2)
    have HB2 := Lib.hid (HB0.out.grew hg2)
    clear hg2 hr2
    rw [hlen]
    go_upto_region 2 with fail
    obtain ⟨w3, hw3⟩ : ∃ w3, w3 = w2.alloc (.cells #[.int .i64 s.rows, .slice B2 16 j2] 58) := ⟨_, rfl⟩
    have HB7 : Hid (Blok w3 w2.heap.size 58 #[.int .i64 s.rows, .slice B2 16 j2]) := Lib.hid (by rw [hw3]; exact Blok.new _ _ _ _ rfl)
    have hB3 : Blok w3 w.heap.size 109 #[.int .i64 0, .int .i64 0, .slice none 0 0] := by rw [hw3]; exact HB2.out.alloc _
    have hG3 : Grew w w3 := by rw [hw3]; exact HG2.out.alloc _
    rw [← hw3]
    clear hw3 HB2 HG2
    generalize w2.heap.size = g7 at *
    obtain ⟨z1, z2, z3, z4, z5⟩ := boxS2 HB7.out
    obtain ⟨y1, y2, y3, y4, y5, y6, y7⟩ := boxC hB3
    obtain ⟨HBf, HF⟩ := HFin.out default w3 none 0 0 w.heap.size (Nat.le_refl _) rfl hG3 hB3 (Or.inl rfl)
    have HB1 := Lib.hid HBf
    have HF1 := Lib.hid HF
    clear hB3 hG3 HBf HF HFin HB0
    go_wp2
    clear y1 y2 y3 y4 y5 y6 y7
    obtain ⟨Wf, hWf⟩ : ∃ Wf, Wf = (((w3.setCell ⟨w.heap.size, 0, none⟩ (.int .i64 0)).setCell ⟨w.heap.size, 1, none⟩ (.int .i64 0)).setCell ⟨w.heap.size, 2, none⟩ (.slice none 0 0)) := ⟨_, rfl⟩
    have HB1' : Blok Wf w.heap.size 109 #[.int .i64 0, .int .i64 0, .slice none 0 0] := by rw [hWf]; exact HB1.out
    have HF1' : KolF w default (.returned (.agg #[.int .i64 0, .int .i64 0, .slice none 0 0])) Wf := by rw [hWf]; exact HF1.out
    rw [← hWf]
    clear HB1 HF1 hWf
    have r0 := HB1'.cell 0
    have r1 := HB1'.cell 1
    have r2 := HB1'.cell 2
    simp at r0 r1 r2
    exact bodyPost_ret (v := .agg #[.int .i64 0, .int .i64 0, .slice none 0 0]) (by simp [results, Tryz.results82, go_sem, r0, r1, r2]) rfl HF1'
  · rw [show colI s.cols c = default by unfold colI; rw [if_pos h1, List.getD_eq_getElem?_getD, List.getElem?_eq_none (by omega)]; rfl]
    have t1 : decide (c < (0 : Int)) = false := decide_eq_false (by omega)
    go_enter Tryz.func82, Tryz.ntmps82
    go_wp2_with fail
    refine (HS.out _ ((Grew.refl w).alloc _)).mono ?_
    rintro e w2 ⟨B2, j2, rfl, hg2, hr2⟩
    have HG2 := Lib.hid (((Grew.refl w).alloc (.cells #[.int .i64 0, .int .i64 0, .slice none 0 0] 109)).trans hg2)
    have HB2 := Lib.hid (HB0.out.grew hg2)
    clear hg2 hr2
    rw [hlen]
    go_upto_region 2 with fail
    obtain ⟨w3, hw3⟩ : ∃ w3, w3 = w2.alloc (.cells #[.int .i64 s.rows, .slice B2 16 j2] 58) := ⟨_, rfl⟩
    have HB7 : Hid (Blok w3 w2.heap.size 58 #[.int .i64 s.rows, .slice B2 16 j2]) := Lib.hid (by rw [hw3]; exact Blok.new _ _ _ _ rfl)
    have hB3 : Blok w3 w.heap.size 109 #[.int .i64 0, .int .i64 0, .slice none 0 0] := by rw [hw3]; exact HB2.out.alloc _
    have hG3 : Grew w w3 := by rw [hw3]; exact HG2.out.alloc _
    rw [← hw3]
    clear hw3 HB2 HG2
    generalize w2.heap.size = g7 at *
    obtain ⟨z1, z2, z3, z4, z5⟩ := boxS2 HB7.out
    obtain ⟨y1, y2, y3, y4, y5, y6, y7⟩ := boxC hB3
    obtain ⟨HBf, HF⟩ := HFin.out default w3 none 0 0 w.heap.size (Nat.le_refl _) rfl hG3 hB3 (Or.inl rfl)
    have HB1 := Lib.hid HBf
    have HF1 := Lib.hid HF
    clear hB3 hG3 HBf HF HFin HB0
    go_wp2
    clear y1 y2 y3 y4 y5 y6 y7
    obtain ⟨Wf, hWf⟩ : ∃ Wf, Wf = (((w3.setCell ⟨w.heap.size, 0, none⟩ (.int .i64 0)).setCell ⟨w.heap.size, 1, none⟩ (.int .i64 0)).setCell ⟨w.heap.size, 2, none⟩ (.slice none 0 0)) := ⟨_, rfl⟩
    have HB1' : Blok Wf w.heap.size 109 #[.int .i64 0, .int .i64 0, .slice none 0 0] := by rw [hWf]; exact HB1.out
    have HF1' : KolF w default (.returned (.agg #[.int .i64 0, .int .i64 0, .slice none 0 0])) Wf := by rw [hWf]; exact HF1.out
    rw [← hWf]
    clear HB1 HF1 hWf
    have r0 := HB1'.cell 0
    have r1 := HB1'.cell 1
    have r2 := HB1'.cell 2
    simp at r0 r1 r2
    exact bodyPost_ret (v := .agg #[.int .i64 0, .int .i64 0, .slice none 0 0]) (by simp [results, Tryz.results82, go_sem, r0, r1, r2]) rfl HF1'
  · have hic : i < s.cols.length := by omega
    rw [show colI s.cols i = s.cols[i] by unfold colI; rw [if_pos (by omega), Int.toNat_natCast, List.getD_eq_getElem?_getD, List.getElem?_eq_getElem hic]; rfl]
    obtain ⟨x, hx⟩ : ∃ x, s.cols[i] = x := ⟨_, rfl⟩
    rw [hx]
    have h1 : ((i : Nat) : Int) < ((16 : Nat) : Int) := by omega
    go_enter Tryz.func82, Tryz.ntmps82
    go_wp2_with fail
    refine (HS.out _ ((Grew.refl w).alloc _)).mono ?_
    rintro e w2 ⟨B2, j2, rfl, hg2, hr2⟩
    have HG2 := Lib.hid (((Grew.refl w).alloc (.cells #[.int .i64 0, .int .i64 0, .slice none 0 0] 109)).trans hg2)
    have HB2 := Lib.hid (HB0.out.grew hg2)
    have HR2 := Lib.hid hr2
    clear hg2 hr2
    rw [hlen]
    go_upto_region 2 with fail
    obtain ⟨w3, hw3⟩ : ∃ w3, w3 = w2.alloc (.cells #[.int .i64 s.rows, .slice B2 16 j2] 58) := ⟨_, rfl⟩
    have HB7 : Hid (Blok w3 w2.heap.size 58 #[.int .i64 s.rows, .slice B2 16 j2]) := Lib.hid (by rw [hw3]; exact Blok.new _ _ _ _ rfl)
    have hB3 : Blok w3 w.heap.size 109 #[.int .i64 0, .int .i64 0, .slice none 0 0] := by rw [hw3]; exact HB2.out.alloc _
    have hG3 : Grew w w3 := by rw [hw3]; exact HG2.out.alloc _
    have hR3 := HR2.out.imp (TRow.grewQ (show Grew w2 w3 by rw [hw3]; exact (Grew.refl _).alloc _))
    rw [← hw3]
    clear hw3 HB2 HG2 HR2
    generalize w2.heap.size = g7 at *
    obtain ⟨z1, z2, z3, z4, z5⟩ := boxS2 HB7.out
    obtain ⟨y1, y2, y3, y4, y5, y6, y7⟩ := boxC hB3
    obtain ⟨b, o, B, kb, rfl, hb, c0, c1, c2, ht⟩ := helk_at hR3 hic
    rw [hx] at c0 c1 c2 ht
    obtain ⟨HBf, HF⟩ := HFin.out x w3 B _ kb _ (by rw [World.size_alloc]; omega) rfl hG3 hB3 ht
    have HB1 := Lib.hid HBf
    have HF1 := Lib.hid HF
    clear hB3 hG3 HBf HF HFin HB0 hR3 ht HS hx
    go_wp2
    clear y1 y2 y3 y4 y5 y6 y7
    obtain ⟨Wf, hWf⟩ : ∃ Wf, Wf = (((w3.setCell ⟨w.heap.size, 0, none⟩ (.int .i64 x.u)).setCell ⟨w.heap.size, 1, none⟩ (.int .i64 x.n)).setCell ⟨w.heap.size, 2, none⟩ (.slice B x.m.length kb)) := ⟨_, rfl⟩
    rw [← hWf] at HB1 HF1 ⊢
    clear hWf
    have r0 := HB1.out.cell 0
    have r1 := HB1.out.cell 1
    have r2 := HB1.out.cell 2
    simp at r0 r1 r2
    exact bodyPost_ret (v := .agg #[.int .i64 x.u, .int .i64 x.n, .slice B x.m.length kb]) (by simp [results, Tryz.results82, go_sem, r0, r1, r2]) rfl HF1.out
set_option maxRecDepth 100000 in
theorem requal_any (l : List Sst) (hl : LitSd l) (t c u d : Int) (A : Option Addr) (k : Nat) (w : World) (ra : SstsR (PRow w) A l) :
    Gives Tryz.prog 47 #[.slice A l.length k, .int .i64 t, .int .i64 c, .int .i64 u, .int .i64 d] w (.float .f64 (sameK (heldAll l) t c u d)) := by
  have H1 : Hid (∀ W, Grew w W → Calls Tryz.prog 82 #[.slice A l.length k, .int .i64 t, .int .i64 c] W (KolF W (colK (heldAll l) t c))) := Lib.hid fun W hW => rcol_any l hl t c A k W (ra.grew hW)
  have H2 : Hid (∀ W, Grew w W → Calls Tryz.prog 82 #[.slice A l.length k, .int .i64 u, .int .i64 d] W (KolF W (colK (heldAll l) u d))) := Lib.hid fun W hW => rcol_any l hl u d A k W (ra.grew hW)
  have h1 := colK_ok (heldAll_ok l) t c
  have h2 := colK_ok (heldAll_ok l) u d
  unfold sameK
  obtain ⟨m, hm⟩ : ∃ m, max (colK (heldAll l) t c).u (colK (heldAll l) u d).u = m := ⟨_, rfl⟩
  have HO : Hid (∀ W, Gives Tryz.prog 81 #[.int .i64 1, .int .i64 m] W (.float .f64 (ofB 1 m))) := Lib.hid fun W => rof_any 1 m ⟨by decide, by decide⟩ ⟨by omega, by omega⟩ W
  rw [hm]
  generalize ofB 1 m = q at *
  generalize colK (heldAll l) t c = x at *
  generalize colK (heldAll l) u d = y at *
  clear h1 h2 ra hl
  unfold Gives
  by_cases h : y.u < x.u
  · obtain rfl : m = x.u := by omega
    clear hm
    go_enter Tryz.func47, Tryz.ntmps47
    go_wp2_with (first | (go_at_call_of 82 (Value.int .i64 c); (with_reducible refine (H1.out _ (Grew.refl w)).mono ?_); rintro e1 w1 ⟨B1, j1, rfl, hg1, _⟩; have HG1 := Lib.hid hg1; clear hg1) | (go_at_call 82; (with_reducible refine (H2.out _ HG1.out).mono ?_); rintro e2 w2 ⟨B2, j2, rfl, hg2, _⟩; have HG2 := Lib.hid (HG1.out.trans hg2); clear hg2) | (go_at_call 81; (with_reducible refine (HO.out _).grows.mono ?_); rintro e3 w3 ⟨rfl, hg3⟩; have HG3 := Lib.hid (HG2.out.trans hg3); clear hg3))
    go_ret
    exact ⟨rfl, HG3.out⟩
  · obtain rfl : m = y.u := by omega
    have h' : decide (y.u < x.u) = false := decide_eq_false h
    clear hm
    go_enter Tryz.func47, Tryz.ntmps47
    go_wp2_with (first | (go_at_call_of 82 (Value.int .i64 c); (with_reducible refine (H1.out _ (Grew.refl w)).mono ?_); rintro e1 w1 ⟨B1, j1, rfl, hg1, _⟩; have HG1 := Lib.hid hg1; clear hg1) | (go_at_call 82; (with_reducible refine (H2.out _ HG1.out).mono ?_); rintro e2 w2 ⟨B2, j2, rfl, hg2, _⟩; have HG2 := Lib.hid (HG1.out.trans hg2); clear hg2) | (go_at_call 81; (with_reducible refine (HO.out _).grows.mono ?_); rintro e3 w3 ⟨rfl, hg3⟩; have HG3 := Lib.hid (HG2.out.trans hg3); clear hg3))
    go_ret
    exact ⟨rfl, HG3.out⟩
def RUpAt (w : World) (f : Int → Bool) (m : List Int) (v i : Value) (wr : World) : Prop := ∃ j : Nat, j ≤ m.length ∧ i = .int .i64 j ∧ v = .int .i64 ((m.take j).countP f : Nat) ∧ Grew w wr
theorem count_succ {l : List Int} {j : Nat} (h : j < l.length) (f : Int → Bool) : (l.take (j + 1)).countP f = (l.take j).countP f + if f l[j] = true then 1 else 0 := by
  rw [List.take_succ_eq_append_getElem h, List.countP_append]
  by_cases hx : f l[j] = true <;> simp [hx]
def markK (op : Int) (m : List Int) (n : Int) : Nat := m.countP fun x => decide (x < n) || (decide (op = 2) && decide (x = n))
theorem markK_below (m : List Int) (n : Int) : ofB (markK 1 m n) m.length = belowK m n := by
  unfold belowK belowN markK
  congr 2
  refine congrArg (fun f => List.countP f m) (funext fun x => ?_)
  simp
theorem markK_upTo (m : List Int) (n : Int) : ofB (markK 2 m n) m.length = upToK m n := by
  unfold upToK upToN markK
  congr 2
  refine congrArg (fun f => List.countP f m) (funext fun x => ?_)
  by_cases h : x ≤ n
  · rw [decide_eq_true h]
    rcases (by omega : x < n ∨ x = n) with h2 | h2
    · rw [decide_eq_true h2]; rfl
    · rw [decide_eq_true h2]; simp
  · rw [decide_eq_false h, decide_eq_false (by omega : ¬ x < n), decide_eq_false (by omega : ¬ x = n)]
    simp
theorem rmarks_any (op : Int) (m : List Int) (hm : m.length ≤ 1000) (n : Int) (A : Option Addr) (k : Nat) (w : World) (ra : Row w A (iV m)) :
    Gives Tryz.prog 108 #[.slice A m.length k, .int .i64 op, .int .i64 n] w (.float .f64 (ofB (markK op m n) m.length)) := by
  have hb : markK op m n ≤ m.length := List.countP_le_length
  have RA := Lib.hid ra
  have HO : Hid (∀ W, Gives Tryz.prog 81 #[.int .i64 (markK op m n), .int .i64 m.length] W (.float .f64 (ofB (markK op m n) m.length))) := Lib.hid fun W => rof_any _ _ ⟨by omega, by omega⟩ ⟨by omega, by omega⟩ W
  clear ra
  unfold Gives
  generalize ofB (markK op m n) m.length = q at *
  unfold markK at *
  obtain ⟨f, hf⟩ : ∃ f : Int → Bool, (fun x => decide (x < n) || (decide (op = 2) && decide (x = n))) = f := ⟨_, rfl⟩
  rw [hf] at HO hb
  have HFx : Hid (∀ x, f x = (decide (x < n) || (decide (op = 2) && decide (x = n)))) := Lib.hid fun x => by rw [← hf]
  clear hf
  go_enter Tryz.func108, Tryz.ntmps108
  go_wp2
  go_loopw [7, 8] (fun v i wr => RUpAt w f m v i wr) (fun _ i _ => m.length - (intOf i).toNat)
  case atStart => exact ⟨0, Nat.zero_le _, rfl, rfl, Grew.refl _⟩
  case round =>
    obtain ⟨j, hj, rfl, rfl, hg⟩ := hrel
    have HG := Lib.hid hg
    have hc : (m.take j).countP f ≤ (m.take j).length := List.countP_le_length
    rw [List.length_take] at hc
    by_cases h : j < m.length
    · obtain ⟨b, o, rfl, hb2, hcell⟩ := rowI_at (RA.out.grew HG.out) h
      have HT := count_succ h f
      have hx := HFx.out m[j]
      clear hg
      generalize m[j] = x at *
      generalize (m.take j).countP f = cnt at *
      rw [hx] at HT
      by_cases h1 : x < n
      · have e1 : (if (decide (x < n) || (decide (op = 2) && decide (x = n))) = true then 1 else 0) = 1 := by rw [decide_eq_true h1]; rfl
        rw [e1] at HT
        replace HT := Lib.hid HT
        clear hx e1
        go_wp2
        exact ⟨⟨j + 1, by omega, by go_num, by rw [HT.out]; go_num, HG.out⟩, by simp only [intOf]; omega⟩
      · have t1 : decide (x < n) = false := decide_eq_false h1
        by_cases h2 : op = 2
        · have t2 : (op == 2) = true := by rw [beq_iff_eq]; exact h2
          by_cases h3 : x = n
          · have t3 : (x == n) = true := by rw [beq_iff_eq]; exact h3
            have e1 : (if (decide (x < n) || (decide (op = 2) && decide (x = n))) = true then 1 else 0) = 1 := by rw [decide_eq_true h2, decide_eq_true h3]; simp
            rw [e1] at HT
            replace HT := Lib.hid HT
            clear hx e1 h1 h2 h3
            go_wp2
            exact ⟨⟨j + 1, by omega, by go_num, by rw [HT.out]; go_num, HG.out⟩, by simp only [intOf]; omega⟩
          · have t3 : (x == n) = false := by rw [beq_eq_false_iff_ne]; exact h3
            have e1 : (if (decide (x < n) || (decide (op = 2) && decide (x = n))) = true then 1 else 0) = 0 := by rw [t1, decide_eq_false h3]; simp
            rw [e1] at HT
            replace HT := Lib.hid HT
            clear hx e1 h1 h2 h3
            go_wp2
            exact ⟨⟨j + 1, by omega, by go_num, by rw [HT.out]; go_num, HG.out⟩, by simp only [intOf]; omega⟩
        · have t2 : (op == 2) = false := by rw [beq_eq_false_iff_ne]; exact h2
          have e1 : (if (decide (x < n) || (decide (op = 2) && decide (x = n))) = true then 1 else 0) = 0 := by rw [t1, decide_eq_false h2]; simp
          rw [e1] at HT
          replace HT := Lib.hid HT
          clear hx e1 h1 h2
          go_wp2
          exact ⟨⟨j + 1, by omega, by go_num, by rw [HT.out]; go_num, HG.out⟩, by simp only [intOf]; omega⟩
    · obtain rfl : j = m.length := by omega
      rw [List.take_length]
      clear hg hc
      generalize m.countP f = cnt at *
      go_wp2_with (go_at_call 81; (with_reducible refine (HO.out _).grows.mono ?_); rintro e3 w3 ⟨rfl, hg3⟩; have HG3 := Lib.hid (HG.out.trans hg3); clear hg3)
      go_ret
      exact ⟨rfl, HG3.out⟩
end Go.Proofs.YtbglmcebkpkccaaGreatDoor
