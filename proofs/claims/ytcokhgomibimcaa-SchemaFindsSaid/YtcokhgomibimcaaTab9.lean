/- Layer 5: a list of rows of its own; Find, Col, Size. Condition: no more than a million rows. -/
import Derived.Test.YtcokhgomibimcaaTab8
import Derived.Test.YtcokhgomibimcaaMix
import Derived.Test.YtcokhgomibimcaaRowEq
import Derived.WalkSpells
namespace Go.Proofs.Ytcokhgomibimcaa
open Go.RowKit
attribute [local go_sem] more_cell more_frozen more_more more_setCell more_of_drew more_of_drewN lt_more le_more past_cell past_cell2 past_frozen past_frozen2 past_setCell past_setCell2 mid_cell mid_frozen mid_setCell
attribute [local go_sem ↓] Go.wp_at_zero Go.wp_at_succ

theorem infoRw : (Try.prog.info? 146).map (fun i => (i.zero, i.size, i.bytes)) = some (some (.slice none 0 0), 1, 24) := by kernel_rfl
theorem infoTb : (Try.prog.info? 80).map (fun i => (i.zero, i.size, i.bytes)) = some (some (.agg #[.string ⟨#[]⟩, .slice none 0 0, .slice none 0 0]), 3, 64) := by kernel_rfl
/-- A slice of its own that reads as xs. -/
def MineF (w : World) (e : TypeId) (n : Nat) (xs : List Value) (en : Ending) (w' : World) : Prop := ∃ A k, en = .returned (.slice A n k) ∧ n ≤ k ∧ Grew w w' ∧ TRow w.heap.size w' e A xs
@[local go_sem] theorem eql_nilR (w : World) (a : Option Addr) (n c : Nat) : (binOp .eql 78 (.slice a n c) (.slice none 0 0)).run Try.prog w = .ok (.bool a.isNone) w := Lib.run_eql_slice_nil w _ _ a n c 0 0 Try.underlying78
theorem clone_rows (xs : List Value) (n : Nat) (hl : xs.length = n) (hn : n ≤ 1000000) (h1 : ∀ u ∈ xs, u.oneCell' = true) (A : Option Addr) (k : Nat) (w : World) (ra : Row w A xs) :
    Calls Try.prog 158 #[.slice A n k] w (MineF w 146 n xs) := by
  have HL := Lib.hid hl
  have HR := Lib.hid ra
  have H1 := Lib.hid h1
  clear hl ra h1
  rcases A with _ | a
  · have hxs : xs = [] := by
      rcases HR.out with h | ⟨b, o, h, _⟩
      · exact h
      · cases h
    have hn0 : n = 0 := by rw [← HL.out, hxs]; rfl
    have HX := Lib.hid hxs
    subst hn0
    clear hxs
    go_enter Try.func158, Try.ntmps158
    go_wp2
    go_ret
    exact ⟨none, 0, rfl, Nat.le_refl _, Grew.refl w, Or.inl HX.out⟩
  · go_enter Try.func158, Try.ntmps158
    go_wp2_with (at_builtin; refine wpList_app rfl _ _ 78 146 rfl w (.slice none 0 0) 24 Try.underlying78 infoRw rfl (by decide) _ 0 [] rfl (own_empty w _ _ _ _ rfl (Nat.le_refl _)) _ n k xs rfl HL.out (row_alloc HR.out _) H1.out (by omega) ((Grew.refl w).alloc _) ?_; intro A' c' w' ho' _ hg' _ _; have HO := Lib.hid ho'; have HG := Lib.hid hg'; clear ho' hg')
    go_ret
    refine ⟨A', c', by first | rfl | rw [Nat.zero_add], ?_, HG.out, ?_⟩
    · have := own_cap' HO.out; omega
    · have h := HO.out
      rw [List.nil_append, Nat.zero_add] at h
      exact TRow.own h
end Go.Proofs.Ytcokhgomibimcaa
