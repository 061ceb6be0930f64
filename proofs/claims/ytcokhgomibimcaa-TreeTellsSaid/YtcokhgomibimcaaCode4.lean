/- Layer 39: a number, numbers behind a copy of bytes. -/
import Derived.Test.YtcokhgomibimcaaCode3
import Derived.WalkSpells
namespace Go.Proofs.Ytcokhgomibimcaa
open Go.RowKit
attribute [local go_sem] more_cell more_frozen more_more more_setCell more_of_drew more_of_drewN lt_more le_more past_cell past_cell2 past_frozen past_frozen2 past_setCell past_setCell2 mid_cell mid_frozen mid_setCell
attribute [local go_sem ↓] Go.wp_at_zero Go.wp_at_succ

@[local go_sem] theorem eql_nilB (w : World) (a : Option Addr) (n c : Nat) : (binOp .eql 22 (.slice a n c) (.slice none 0 0)).run Try.prog w = .ok (.bool a.isNone) w := Lib.run_eql_slice_nil w _ _ a n c 0 0 Try.underlying22
theorem row_nil {w : World} {l : List Value} (h : Row w none l) : l = [] := by
  rcases h with h | ⟨b, o, h1, _⟩
  · exact h
  · exact absurd h1 (by simp)
set_option maxRecDepth 100000 in
theorem bclone_any (l : List Nat) (A : Option Addr) (c : Nat) (hl : l.length ≤ 1000000) (w : World) (hr : Row w A (bV l)) :
    Calls Try.prog 96 #[.slice A l.length c] w (PutF w l) := by
  have HR := Lib.hid hr
  clear hr
  rcases A with _ | p
  · obtain rfl : l = [] := by
      have h := row_nil HR.out
      unfold bV at h
      exact List.map_eq_nil_iff.mp h
    go_enter Try.func96, Try.ntmps96
    go_wp2
    go_ret
    exact ⟨none, 0, rfl, own_none _ _ _ _, by (show Grew _ _; repeat (first | exact Grew.refl _ | refine Grew.alloc ?_ _ | refine Grew.drew ?_ | refine Grew.more ?_ _))⟩
  · go_enter Try.func96, Try.ntmps96
    go_wp2_with (at_builtin; refine wpList_app rfl (.tmp 5) (.tmp 6) 22 5 rfl w (.int .u8 0) 1 Try.underlying22 infoB rfl (by decide) _ 0 [] rfl (own_empty _ _ _ _ _ rfl (Nat.le_refl _)) (some p) l.length c (bV l) rfl (by simp [bV]) (row_alloc HR.out _) (bV_one l) (by omega) (by (show Grew _ _; repeat (first | exact Grew.refl _ | refine Grew.alloc ?_ _ | refine Grew.drew ?_ | refine Grew.more ?_ _))) ?_; intro A4 c4 w4 ho4 _ hg4 _ _; have HO4 := Lib.hid ho4; have HG4 := Lib.hid hg4; clear ho4 hg4)
    go_ret
    exact ⟨A4, c4, by simp, by have h := HO4.out; rw [List.nil_append, Nat.zero_add] at h; exact h, HG4.out⟩
set_option maxRecDepth 100000 in
theorem putint_any (l : List Nat) (A : Option Addr) (c : Nat) (n : Int) (h1 : -9223372036854775808 ≤ n) (h2 : n ≤ 9223372036854775807) (hl : l.length ≤ 100000) (w : World) (hr : Row w A (bV l)) :
    Calls Try.prog 16 #[.slice A l.length c, .int .i64 n] w (PutF w (l ++ vb (zz n))) := by
  have HR := Lib.hid hr
  have HP : Hid (∀ A1 c1 W, W.ownsRow w.heap.size 5 1 (.slice A1 l.length c1) l.length (bV l) → Grew w W → Calls Try.prog 95 #[.slice A1 l.length c1, .int .i64 n] W (PutF w (l ++ vb (zz n)))) := Lib.hid fun A1 c1 W h3 h4 => put_any w l A1 c1 n h1 h2 (by omega) W h3 h4
  clear hr h1 h2
  generalize l ++ vb (zz n) = all at *
  go_enter Try.func16, Try.ntmps16
  go_wp2_with (first | (go_at_call 96; refine (bclone_any l A c (by omega) _ HR.out).mono ?_; rintro e w1 ⟨A1, c1, rfl, ho1, hg1⟩; have HO1 := Lib.hid ho1; have HG1 := Lib.hid hg1; clear ho1 hg1) | (go_at_call 95; refine (HP.out _ _ _ HO1.out HG1.out).mono ?_; rintro e w3 ⟨A3, c3, rfl, ho3, hg3⟩; have HO3 := Lib.hid ho3; have HG3 := Lib.hid hg3; clear ho3 hg3))
  go_ret
  exact ⟨A3, c3, rfl, HO3.out, HG3.out⟩
set_option maxRecDepth 100000 in
theorem putints_any (bs : List Nat) (A : Option Addr) (c : Nat) (l : List Int) (L : Option Addr) (d : Nat) (hl : bs.length ≤ 100000) (hll : l.length ≤ 10000) (hs : smallI l) (w : World) (hb : Row w A (bV bs)) (hr : NRow w L l) :
    Calls Try.prog 17 #[.slice A bs.length c, .slice L l.length d] w (PutF w (bs ++ vbs l)) := by
  have HB := Lib.hid hb
  have HP : Hid (∀ A1 c1 W, W.ownsRow w.heap.size 5 1 (.slice A1 bs.length c1) bs.length (bV bs) → Grew w W → Calls Try.prog 97 #[.slice A1 bs.length c1, .slice L l.length d] W (PutF w (bs ++ vbs l))) := Lib.hid fun A1 c1 W h3 h4 => puts_any w bs A1 c1 l L d hl hll hs W h3 h4 hr
  clear hr hb hs
  generalize bs ++ vbs l = all at *
  go_enter Try.func17, Try.ntmps17
  go_wp2_with (first | (go_at_call 96; refine (bclone_any bs A c (by omega) _ HB.out).mono ?_; rintro e w1 ⟨A1, c1, rfl, ho1, hg1⟩; have HO1 := Lib.hid ho1; have HG1 := Lib.hid hg1; clear ho1 hg1) | (go_at_call 97; refine (HP.out _ _ _ HO1.out HG1.out).mono ?_; rintro e w3 ⟨A3, c3, rfl, ho3, hg3⟩; have HO3 := Lib.hid ho3; have HG3 := Lib.hid hg3; clear ho3 hg3))
  go_ret
  exact ⟨A3, c3, rfl, HO3.out, HG3.out⟩
end Go.Proofs.Ytcokhgomibimcaa
