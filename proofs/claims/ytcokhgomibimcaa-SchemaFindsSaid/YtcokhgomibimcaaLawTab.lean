/- Layer 5: the law of which tables may be. Condition: tables that lie in memory that is there. -/
import Derived.Test.YtcokhgomibimcaaTab8
namespace Go.Proofs.Ytcokhgomibimcaa
open Go.RowKit
attribute [local go_sem] more_cell more_frozen more_more more_setCell more_of_drew more_of_drewN lt_more le_more past_cell past_cell2 past_frozen past_frozen2 past_setCell past_setCell2 mid_cell mid_frozen mid_setCell
attribute [local go_sem ↓] Go.wp_at_zero Go.wp_at_succ

theorem code5_any (e : Int) (w : World) : Gives Try.prog 55 #[.int .i64 e] w (.int .i64 e) := by
  unfold Gives
  go_enter Try.func55, Try.ntmps55
  go_wp2
  go_ret
  exact ⟨rfl, by (show Grew _ _; repeat (first | exact Grew.refl _ | refine Grew.alloc ?_ _ | refine Grew.drew ?_ | refine Grew.more ?_ _))⟩
set_option maxHeartbeats 1000000 in
theorem schemaChecks_walk (db : List Tb) (hd : TbsOk db) (A : Option Addr) (k : Nat) (hk : db.length ≤ k) (w : World) (ra : TbsR (PRow w) A db) :
    Gives Try.prog 9 #[.slice A db.length k] w (.bool true) := by
  have HM := Lib.hid (much5_any db hd A k w ra)
  have HC : Hid (∀ W, Grew w W → Gives Try.prog 56 #[.slice A db.length k] W (.int .i64 (checkE db))) := Lib.hid fun W hW => check_any db hd A k hk W (ra.grew hW)
  have HR : Hid (∀ W, Grew w W → Gives Try.prog 57 #[.slice A db.length k] W (.int .i64 (checkE db))) := Lib.hid fun W hW => rcheck_any db hd A k hk W (ra.grew hW)
  clear ra hd hk
  generalize checkE db = E at *
  unfold Gives
  go_enter Try.func9, Try.ntmps9
  go_wp2_with fail
  refine HM.out.mono ?_
  rintro e w1 ⟨t, rfl, hg1, _⟩
  have HG1 := Lib.hid hg1
  clear hg1 HM
  cases t
  · go_wp2_with (first | (go_at_call 56; (with_reducible refine (HC.out _ HG1.out).grows.mono ?_); rintro e w2 ⟨rfl, hg2⟩; have HG2 := Lib.hid (HG1.out.trans hg2); clear hg2) | (go_at_call 55; (with_reducible refine (code5_any _ _).grows.mono ?_); rintro e w3 ⟨rfl, hg3⟩; have HG3 := Lib.hid (HG2.out.trans hg3); clear hg3) | (go_at_call 57; (with_reducible refine (HR.out _ HG3.out).grows.mono ?_); rintro e w4 ⟨rfl, hg4⟩; have HG4 := Lib.hid (HG3.out.trans hg4); clear hg4) | (go_at_call 54; (with_reducible refine (live5_any _).grows.mono ?_); rintro e w5 ⟨rfl, hg5⟩; have HG5 := Lib.hid (HG4.out.trans hg5); clear hg5))
    go_ret
    exact ⟨rfl, HG5.out⟩
  · go_wp2_with (first | (go_at_call 54; (with_reducible refine (live5_any _).grows.mono ?_); rintro e w5 ⟨rfl, hg5⟩; have HG5 := Lib.hid (HG1.out.trans hg5); clear hg5))
    go_ret
    exact ⟨rfl, HG5.out⟩
end Go.Proofs.Ytcokhgomibimcaa
