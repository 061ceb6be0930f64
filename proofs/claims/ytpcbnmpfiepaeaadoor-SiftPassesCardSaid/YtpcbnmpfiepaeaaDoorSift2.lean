/- Layer 20: spans of one's own: a copy; a key's values added. Condition: rows that lie in memory that is there; no more than a million values. -/
import Derived.Test.YtpcbnmpfiepaeaaDoorSift1
import Derived.WalkSpells
namespace Go.Proofs.YtpcbnmpfiepaeaaDoor
open Go.RowKit
attribute [local go_sem] more_cell more_frozen more_more more_setCell more_of_drew more_of_drewN lt_more le_more past_cell past_cell2 past_frozen past_frozen2 past_setCell past_setCell2 mid_cell mid_frozen mid_setCell
attribute [local go_sem ↓] Go.wp_at_zero Go.wp_at_succ

theorem infoSp : (Tryd.prog.info? 50).map (fun i => (i.zero, i.size, i.bytes)) = some (some (.agg #[.int .i64 0, .int .i64 0, .string ⟨#[]⟩, .int .i64 0, .int .i64 0, .string ⟨#[]⟩, .int .i64 0, .int .i64 0]), 8, 80) := by kernel_rfl
@[local go_sem] theorem eql_nilSp (w : World) (a : Option Addr) (n c : Nat) : (binOp .eql 30 (.slice a n c) (.slice none 0 0)).run Tryd.prog w = .ok (.bool a.isNone) w := Lib.run_eql_slice_nil w _ _ a n c 0 0 Tryd.underlying30
set_option maxHeartbeats 1000000 in
theorem sclone_any (ss : List S) (hn : ss.length ≤ 1000000) (A : Option Addr) (k : Nat) (w : World) (ra : Row w A (flatS ss)) :
    Calls Tryd.prog 18 #[.slice A ss.length k] w fun e w' => ∃ S c, e = .returned (.slice S ss.length c) ∧ Grew w w' ∧ w'.ownsRow w.heap.size 50 8 (.slice S ss.length c) ss.length (flatS ss) := by
  have HR := Lib.hid ra
  have HL := Lib.hid (flatS_len ss)
  have H1 := Lib.hid (flatS_one ss)
  clear ra
  rcases A with _ | a
  · have hs : ss = [] := by
      rcases HR.out with h | ⟨b, o, h, _⟩
      · have := congrArg List.length h
        rw [flatS_len, List.length_nil] at this
        exact List.eq_nil_of_length_eq_zero (by omega)
      · cases h
    subst hs
    go_enter Tryd.func18, Tryd.ntmps18
    go_wp2
    go_ret
    exact ⟨none, 0, rfl, Grew.refl w, own_none w _ _ 8⟩
  · generalize flatS ss = M at *
    generalize ss.length = n at *
    go_enter Tryd.func18, Tryd.ntmps18
    go_wp2_with (at_builtin; refine wpList_apps rfl _ _ 30 50 8 rfl w (.agg #[.int .i64 0, .int .i64 0, .string ⟨#[]⟩, .int .i64 0, .int .i64 0, .string ⟨#[]⟩, .int .i64 0, .int .i64 0]) 80 Tryd.underlying30 infoSp rfl (by decide) (by decide) _ 0 [] rfl (own_empty w _ _ _ _ rfl (Nat.le_refl _)) _ n k M rfl HL.out (row_alloc HR.out _) H1.out (by omega) ((Grew.refl w).alloc _) ?_; intro A' c' w' ho' _ hg' _ _; have HO := Lib.hid ho'; have HG := Lib.hid hg'; clear ho' hg')
    go_ret
    refine ⟨A', c', by first | rfl | rw [Nat.zero_add], HG.out, ?_⟩
    have h := HO.out
    rw [List.nil_append, Nat.zero_add] at h
    exact h
/-- The spans with one value more, at a place. -/
def stepS (cur : List S) (j : Nat) (v : Vl) : List S := (if j < cur.length then cur else cur ++ [zeroS]).set j (addS ((if j < cur.length then cur else cur ++ [zeroS]).getD j zeroS) [toV v])
def withJ (ss : List S) (l : List Vl) : Nat → List S
  | 0 => ss
  | j + 1 => stepS (withJ ss l j) j (l.getD j nulV)
theorem withJ_len (ss : List S) (l : List Vl) : ∀ j, (withJ ss l j).length = max ss.length j
  | 0 => by simp [withJ]
  | j + 1 => by
    have ih := withJ_len ss l j
    unfold withJ stepS
    rw [List.length_set]
    split
    · omega
    · rw [List.length_append, ih]
      simp
      omega
def cntS (s : S) : Int := s.whole + s.nulls
def FewN (m : Nat) (s : S) : Prop := 0 ≤ s.whole ∧ 0 ≤ s.nulls ∧ cntS s ≤ m
theorem fewN_zero (m : Nat) : FewN m zeroS := ⟨by decide, by decide, by show (0 : Int) + 0 ≤ m; omega⟩
theorem fewN_few {m : Nat} {s : S} (h : FewN m s) (hm : m ≤ 1000000) : fewS s := by
  obtain ⟨h1, h2, h3⟩ := h
  unfold cntS at h3
  exact ⟨h1, by omega, h2, by omega⟩
theorem addS_single (s : S) (v : V) : addS s [v] = unionS s (ofS v) := rfl
theorem fewN_add {m : Nat} {s : S} (h : FewN m s) (v : V) : FewN (m + 1) (addS s [v]) := by
  obtain ⟨h1, h2, h3⟩ := h
  rw [addS_single]
  unfold cntS at h3
  unfold FewN cntS unionS ofS
  by_cases hv : v.k = 0
  · simp only [hv, if_true]
    refine ⟨by omega, by omega, by push_cast; omega⟩
  · simp only [hv, if_false]
    refine ⟨by omega, by omega, by push_cast; omega⟩
theorem set_few {m j : Nat} {cur : List S} {v : V} (hcur : ∀ q (hq : q < cur.length), FewN (if q < j then m + 1 else m) cur[q]) (i : Nat) (hi : i < (cur.set j (addS (cur.getD j zeroS) [v])).length) : FewN (if i < j + 1 then m + 1 else m) (cur.set j (addS (cur.getD j zeroS) [v]))[i] := by
  rw [List.length_set] at hi
  rw [List.getElem_set]
  by_cases hij : j = i
  · subst hij
    rw [if_pos rfl, if_pos (by omega)]
    have := hcur j hi
    rw [if_neg (by omega)] at this
    rw [List.getD_eq_getElem?_getD, List.getElem?_eq_getElem hi, Option.getD_some]
    exact fewN_add this _
  · rw [if_neg hij]
    have := hcur i hi
    by_cases hlt : i < j
    · rw [if_pos hlt] at this
      rw [if_pos (by omega)]
      exact this
    · rw [if_neg hlt] at this
      rw [if_neg (by omega)]
      exact this
theorem withJ_few {m : Nat} {ss : List S} {l : List Vl} (h : ∀ s ∈ ss, FewN m s) : ∀ j i (hi : i < (withJ ss l j).length), FewN (if i < j then m + 1 else m) (withJ ss l j)[i]
  | 0, i, hi => by
    rw [if_neg (by omega)]
    exact h _ (List.getElem_mem _)
  | j + 1, i, hi => by
    have ih := withJ_few (l := l) h j
    have hl := withJ_len ss l j
    have hcur : ∀ q (hq : q < (if j < (withJ ss l j).length then withJ ss l j else withJ ss l j ++ [zeroS]).length), FewN (if q < j then m + 1 else m) (if j < (withJ ss l j).length then withJ ss l j else withJ ss l j ++ [zeroS])[q] := by
      intro q hq
      by_cases hj : j < (withJ ss l j).length
      · simp only [hj, if_true] at hq ⊢
        exact ih q hq
      · simp only [hj, if_false] at hq ⊢
        by_cases hq2 : q < (withJ ss l j).length
        · rw [List.getElem_append_left hq2]
          exact ih q hq2
        · rw [List.getElem_append_right (by omega)]
          simp only [List.getElem_singleton]
          rw [if_neg (by omega)]
          exact fewN_zero m
    exact set_few hcur i hi
theorem set_behind {P X : List Value} {p i : Nat} (hp : P.length = p) (v : Value) : (P ++ X).set (p + i) v = P ++ X.set i v := by
  rw [List.set_append_right _ _ (by omega)]
  congr 2
  omega
/-- A span laid into a row of spans, cell by cell. -/
theorem flatS_set {ss : List S} {j : Nat} (h : j < ss.length) (r : S) :
    ((((((((flatS ss).set (j * 8) (.int .i64 r.low.k)).set (j * 8 + 1) (.int .i64 r.low.i)).set (j * 8 + 2) (.string r.low.s)).set (j * 8 + 3) (.int .i64 r.high.k)).set (j * 8 + 4) (.int .i64 r.high.i)).set (j * 8 + 5) (.string r.high.s)).set (j * 8 + 6) (.int .i64 r.whole)).set (j * 8 + 7) (.int .i64 r.nulls) = flatS (ss.set j r) := by
  have e : flatS ss = flatS (ss.take j) ++ (scL ss[j] ++ flatS (ss.drop (j + 1))) := by
    have e1 : scL ss[j] ++ flatS (ss.drop (j + 1)) = flatS (ss.drop j) := by
      unfold flatS
      rw [List.drop_eq_getElem_cons h, List.map_cons, List.flatten_cons]
    rw [e1, ← flatS_app, List.take_append_drop]
  have hl : (flatS (ss.take j)).length = j * 8 := by rw [flatS_len, List.length_take, Nat.min_eq_left (by omega)]
  have e2 : flatS (ss.set j r) = flatS (ss.take j) ++ (scL r ++ flatS (ss.drop (j + 1))) := by
    rw [List.set_eq_take_append_cons_drop, if_pos h, flatS_app]
    rfl
  rw [e, e2]
  have h0 : ∀ (X : List Value) (v : Value), (flatS (ss.take j) ++ X).set (j * 8) v = flatS (ss.take j) ++ X.set 0 v := fun X v => set_behind (i := 0) hl v
  rw [h0, set_behind hl, set_behind hl, set_behind hl, set_behind hl, set_behind hl, set_behind hl, set_behind hl]
  rfl
end Go.Proofs.YtpcbnmpfiepaeaaDoor
