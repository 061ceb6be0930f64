/- Rows that are cloned or copied. No condition. -/
import Derived.Test.YtddambfniaiogaaRowEq
import Derived.Test.YtddambfniaiogaaMix
import Derived.Test.YtddambfniaiogaaApp
import Derived.WalkSpells
import Derived.Laws.CopyOwn
import Derived.Deep.OwnRows
namespace Go.Proofs.Ytddambfniaiogaa
open Go.RowKit
attribute [local go_sem] more_cell more_frozen more_more more_setCell more_of_drew more_of_drewN lt_more le_more past_cell past_cell2 past_frozen past_frozen2 past_setCell past_setCell2 mid_cell mid_frozen mid_setCell
attribute [local go_sem ↓] Go.wp_at_zero Go.wp_at_succ

theorem ListR.one {α : Type} {R : α → List Value → Prop} {l : List α} {css : List (List Value)} (h : ListR R 1 l css) (p : Value → Prop) (hp : ∀ x cs, R x cs → ∀ u ∈ cs, p u) : ∀ u ∈ css.flatten, p u := by
  intro u hu
  rw [List.mem_flatten] at hu
  obtain ⟨cs, hcs, hu⟩ := hu
  obtain ⟨i, hi, rfl⟩ := List.mem_iff_getElem.1 hcs
  exact hp _ _ (h.2 i (l[i]'(by rw [← h.1]; exact hi)) _ (List.getElem?_eq_getElem _) (List.getElem?_eq_getElem hi)).1 u hu
theorem infoRw : (Try.prog.info? 46).map (fun i => (i.zero, i.size, i.bytes)) = some (some (.slice none 0 0), 1, 24) := by kernel_rfl
/-- A slice of its own that reads as xs. -/
def MineF (w : World) (e : TypeId) (n : Nat) (xs : List Value) (en : Ending) (w' : World) : Prop := ∃ A k, en = .returned (.slice A n k) ∧ n ≤ k ∧ Grew w w' ∧ TRow w.heap.size w' e A xs
@[local go_sem] theorem eql_nilR (w : World) (a : Option Addr) (n c : Nat) : (binOp .eql 27 (.slice a n c) (.slice none 0 0)).run Try.prog w = .ok (.bool a.isNone) w := Lib.run_eql_slice_nil w _ _ a n c 0 0 Try.underlying27
theorem clone_rows (xs : List Value) (n : Nat) (hl : xs.length = n) (hn : n ≤ 1000000) (h1 : ∀ u ∈ xs, u.oneCell' = true) (A : Option Addr) (k : Nat) (w : World) (ra : Row w A xs) :
    Calls Try.prog 101 #[.slice A n k] w (MineF w 46 n xs) := by
  have HL := Lib.hid hl
  have HR := Lib.hid ra
  have H1 := Lib.hid h1
  clear hl ra h1
  rcases A with _ | a
  · have hxs : xs = [] := by
      rcases HR.out with h | ⟨b, o, h, _⟩
      · exact h
      · cases h
    have hn0 : n = 0 := by rw [← HL.out, hxs]; rfl
    have HX := Lib.hid hxs
    subst hn0
    clear hxs
    go_enter Try.func101, Try.ntmps101
    go_wp2
    go_ret
    exact ⟨none, 0, rfl, Nat.le_refl _, Grew.refl w, Or.inl HX.out⟩
  · go_enter Try.func101, Try.ntmps101
    go_wp2_with (at_builtin; refine wpList_app rfl _ _ 27 46 rfl w (.slice none 0 0) 24 Try.underlying27 infoRw rfl (by decide) _ 0 [] rfl (own_empty w _ _ _ _ rfl (Nat.le_refl _)) _ n k xs rfl HL.out (row_alloc HR.out _) H1.out (by omega) ((Grew.refl w).alloc _) ?_; intro A' c' w' ho' _ hg' _ _; have HO := Lib.hid ho'; have HG := Lib.hid hg'; clear ho' hg')
    go_ret
    refine ⟨A', c', by first | rfl | rw [Nat.zero_add], ?_, HG.out, ?_⟩
    · have := own_cap' HO.out; omega
    · have h := HO.out
      rw [List.nil_append, Nat.zero_add] at h
      exact TRow.own h
theorem run_copy_in {P : Program} {w : World} {T elem ty t : TypeId} (hu : P.underlying T = some (.slice elem)) (hs : (P.info? elem).map (·.size) = some 1) {g o dLen dCap sLen sCap : Nat} {dp sp : Option Addr} {cur xs : List Value}
    (hg : w.heap[g]? = some (.cells cur.toArray t (0, 0))) (hx : xs.length = sLen) (hle : sLen ≤ dLen) (hd : 0 < sLen → dp = some ⟨g, o, none⟩) (hr : Row w sp xs) (hfit : o + sLen ≤ cur.length) (h1 : ∀ u ∈ xs, u.oneCell' = true)
    {B : Nat} {w0 : World} (hb : Below B w0 w) (hBg : B ≤ g) :
    ∃ w', (Builtin.copy_ #[T, T] ty #[.slice dp dLen dCap, .slice sp sLen sCap]).run P w = .ok (.int .i64 sLen) w' ∧ w'.heap[g]? = some (.cells (splice cur o xs).toArray t (0, 0)) ∧ Below B w0 w' := by
  have hmin : Nat.min sLen dLen = sLen := Nat.min_eq_left hle
  by_cases h0 : sLen = 0
  · refine ⟨w, ?_, ?_, hb⟩
    · have := run_copy_none (P := P) w T T ty elem dp sp dLen dCap sLen sCap hu hs (by rw [hmin]; exact h0)
      rw [this, h0]; rfl
    · have hxs : xs = [] := List.eq_nil_of_length_eq_zero (by omega)
      rw [hg, hxs]
      unfold splice
      simp
  · obtain rfl := hd (by omega)
    rcases hr with hr | ⟨b', o', rfl, hlt, hc⟩
    · rw [hr] at hx; simp at hx; omega
    · have := run_copy_row (P := P) w T T ty elem g o dLen dCap ⟨b', o', none⟩ sLen sCap cur.toArray t xs hu hs hg (by rw [hmin]; exact hx) (fun j v hv => by rw [add_plain]; exact hc j v hv) (by simpa [hx] using hfit) h1
      rw [hx] at this
      exact ⟨_, this, by rw [setRow_heap w g _ _ t (0, 0) hg]; unfold splice; simp [hx], below_setRow hb hBg _⟩
theorem rwR_one {R : Rw} {x : List Vl} {cs : List Value} (h : RwR R x cs) : ∀ u ∈ cs, u.oneCell' = true := by
  obtain ⟨A, k, rfl, _⟩ := h
  intro u hu
  simp at hu
  subst hu
  rfl
theorem ListR.append {α : Type} {R : α → List Value → Prop} {size : Nat} {l m : List α} {css dss : List (List Value)} (h : ListR R size l css) (k : ListR R size m dss) : ListR R size (l ++ m) (css ++ dss) := by
  refine ⟨by simp [h.1, k.1], fun j x cs h1 h2 => ?_⟩
  rcases Nat.lt_or_ge j l.length with hj | hj
  · rw [List.getElem?_append_left hj] at h1
    rw [List.getElem?_append_left (by rw [h.1]; exact hj)] at h2
    exact h.2 j x cs h1 h2
  · rw [List.getElem?_append_right hj] at h1
    rw [List.getElem?_append_right (by rw [h.1]; exact hj), h.1] at h2
    exact k.2 _ x cs h1 h2
end Go.Proofs.Ytddambfniaiogaa
