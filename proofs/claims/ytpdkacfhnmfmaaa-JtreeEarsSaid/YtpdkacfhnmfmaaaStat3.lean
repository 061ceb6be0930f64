/- Numbers in a row of one's own: cloned, cut, sorted; what is said of one column. Condition: no more than a million numbers. -/
import Derived.Test.YtpdkacfhnmfmaaaStat2
import Derived.Test.YtpdkacfhnmfmaaaHist5
import Derived.Test.YtpdkacfhnmfmaaaNest
import Derived.WalkSpells
namespace Go.Proofs.Ytpdkacfhnmfmaaa
open Go.RowKit
attribute [local go_sem] more_cell more_frozen more_more more_setCell more_of_drew more_of_drewN lt_more le_more past_cell past_cell2 past_frozen past_frozen2 past_setCell past_setCell2 mid_cell mid_frozen mid_setCell
attribute [local go_sem ↓] Go.wp_at_zero Go.wp_at_succ
@[local go_sem] theorem eql_nilI (w : World) (a : Option Addr) (n c : Nat) : (binOp .eql 25 (.slice a n c) (.slice none 0 0)).run Try.prog w = .ok (.bool a.isNone) w := Lib.run_eql_slice_nil w _ _ a n c 0 0 Try.underlying25

/-- Numbers that come back in a row of one's own, which may be written. -/
def OwnI (w : World) (l : List Int) (e : Ending) (w' : World) : Prop := ∃ A k, e = .returned (.slice A l.length k) ∧ Grew w w' ∧ w'.ownsRow w.heap.size 3 1 (.slice A l.length k) l.length (iV l)
theorem iV_len (l : List Int) : (iV l).length = l.length := by simp [iV]
theorem clone_ints (l : List Int) (hl : l.length ≤ 1000000) (A : Option Addr) (k : Nat) (w : World) (ra : Row w A (iV l)) : Calls Try.prog 48 #[.slice A l.length k] w (OwnI w l) := by
  have HR := Lib.hid ra
  clear ra
  rcases A with _ | a
  · have hxs : l = [] := by
      rcases HR.out with h | ⟨b, o, h, _⟩
      · simpa [iV] using h
      · cases h
    subst hxs
    go_enter Try.func48, Try.ntmps48
    go_wp2
    go_ret
    exact ⟨none, 0, rfl, Grew.refl w, own_none _ _ _ _⟩
  · have HL := Lib.hid (iV_len l)
    have H1 := Lib.hid (iV_one l)
    go_enter Try.func48, Try.ntmps48
    go_wp2_with (at_builtin; refine wpList_app rfl _ _ 25 3 rfl w (.int .i64 0) 8 Try.underlying25 infoI rfl (by decide) _ 0 [] rfl (own_empty w _ _ _ _ rfl (Nat.le_refl _)) _ l.length k (iV l) rfl HL.out (row_alloc HR.out _) H1.out (by omega) ((Grew.refl w).alloc _) ?_; intro A' c' w' ho' _ hg' _ _; have HO := Lib.hid ho'; have HG := Lib.hid hg'; clear ho' hg')
    go_ret
    refine ⟨A', c', by first | rfl | rw [Nat.zero_add], HG.out, ?_⟩
    have h := HO.out
    rw [List.nil_append, Nat.zero_add] at h
    exact h
theorem own_cut {w : World} {base n c : Nat} {e : TypeId} {A : Option Addr} {xs : List Value} (h : w.ownsRow base e 1 (.slice A n c) n xs) {k : Nat} (hk : k ≤ n) : w.ownsRow base e 1 (.slice A k c) k (xs.take k) := by
  have hl := h.1
  refine ⟨by rw [List.length_take, hl]; omega, ?_⟩
  rcases h.2 with ⟨h1, h2⟩ | ⟨g, cap, cur, h1, h2, h3, h4, h5, h6, h7⟩
  · injection h1 with h1 h1' h1''
    subst h1 h1''
    obtain rfl : k = 0 := by omega
    exact Or.inl ⟨rfl, rfl⟩
  · injection h1 with h1 _ h1''
    subst h1 h1''
    refine Or.inr ⟨g, c, cur, rfl, h2, h3, by omega, h5, h6, ?_⟩
    rw [← h7, List.take_take]
    congr 1
    omega
/-- Numbers of one's own are sorted where they lie. -/
theorem sort_own (l : List Int) (hz : l.length ≤ 1000000) (A : Option Addr) (c base : Nat) (w : World) (ho : w.ownsRow base 3 1 (.slice A l.length c) l.length (iV l)) :
    Calls Try.prog 69 #[.slice A l.length c] w fun e w' => e = .returned (.tuple #[]) ∧ w'.ownsRow base 3 1 (.slice A l.length c) l.length (iV (sortI l)) ∧ w.grownBy w' (Value.slice A l.length c).ownBlock := by
  have hl : (sortI l).length = l.length := sortI_len l
  by_cases h0 : l.length = 0
  · have h00 : l = [] := List.eq_nil_of_length_eq_zero h0
    subst h00
    refine (Try.slices_Sort_int_none A c w).mono ?_
    rintro e w' ⟨rfl, rfl⟩
    exact ⟨rfl, by rw [sortI_nil]; exact ho, World.grownBy.refl _ _⟩
  rcases ho.2 with ⟨h1, h2⟩ | ⟨g, cap, cur, h1, hbase, hgb, r1, r2, r3, r4⟩
  · omega
  · injection h1 with h1 _ h1''
    subst h1 h1''
    have hH : Go.Sort.Holds (Value.int .i64) w g 0 l.toArray := holds_of_blockI hgb (by simpa [iV] using r4)
    have hgl : g < w.heap.size := (Array.getElem?_eq_some_iff.1 hgb).1
    refine (Try.slices_Sort_int g 0 c l w hH hgl (by omega)).mono ?_
    rintro e w' ⟨rfl, n, os, rfl⟩
    exact ⟨rfl, ownsRow_sortedI (ts := sortI l) hl hbase hgb r1 r2 r3, grownBy_sortedI _⟩

def colI (l : List Cst) (c : Int) : Cst := if 0 ≤ c then l.getD c.toNat default else default
/-- What is said of a column, with marks of one's own. -/
def ColF (w : World) (x : Cst) (e : Ending) (w' : World) : Prop := ∃ B j, e = .returned (.agg #[.int .i64 x.u, .int .i64 x.n, .slice B x.m.length j]) ∧ Grew w w' ∧ w'.ownsRow w.heap.size 3 1 (.slice B x.m.length j) x.m.length (iV x.m)
end Go.Proofs.Ytpdkacfhnmfmaaa
