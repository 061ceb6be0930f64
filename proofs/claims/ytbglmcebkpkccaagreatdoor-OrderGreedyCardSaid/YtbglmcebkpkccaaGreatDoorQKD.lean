/- Layer 29: the share of rows for which an expression may be true, by the program. Condition: what is said, and an expression, in memory that is there; the turned signs as they are laid. -/
import Derived.Test.YtbglmcebkpkccaaGreatDoorQKC

/- Layer 29: the share of a column, a sign and a number, by the document. Condition: no more than a million columns and marks, what is said in memory that is there. -/
namespace Go.Proofs.YtbglmcebkpkccaaGreatDoor
open Go.RowKit
attribute [local go_sem] more_cell more_frozen more_more more_setCell more_of_drew more_of_drewN lt_more le_more past_cell past_cell2 past_frozen past_frozen2 past_setCell past_setCell2 mid_cell mid_frozen mid_setCell
attribute [local go_sem] fldC0 fldC1 fldS0
attribute [local go_sem ↓] Go.wp_at_zero Go.wp_at_succ

theorem rand2 (a b : Nat) (ha : a ≤ 4607182418800017408) (hb : b ≤ 4607182418800017408) (W : World) (A : Option Addr) (c : Nat) (hr : Row W A [.float .f64 a, .float .f64 b]) : Calls Tryz.prog 44 #[.slice A 2 c] W fun e w' => e = .returned (.float .f64 (andF [a, b] 4607182418800017408)) ∧ w' = W :=
  fo_rand_any [a, b] A c (by simp) (by intro x hx; simp at hx; rcases hx with rfl | rfl <;> omega) W hr
theorem and2 (a b : Nat) (ha : a ≤ 4607182418800017408) (hb : b ≤ 4607182418800017408) (W : World) (A : Option Addr) (c : Nat) (hr : Row W A [.float .f64 a, .float .f64 b]) : Calls Tryz.prog 55 #[.slice A 2 c] W fun e w' => e = .returned (.float .f64 (andF [a, b] 4607182418800017408)) ∧ w' = W :=
  fo_and_any [a, b] A c (by simp) (by intro x hx; simp at hx; rcases hx with rfl | rfl <;> omega) W hr
theorem belowK_le (m : List Int) (n : Int) : belowK m n ≤ 4607182418800017408 := ofB_le _ _
theorem upToK_le (m : List Int) (n : Int) : upToK m n ≤ 4607182418800017408 := ofB_le _ _
theorem signs (op : Int) (ho : 1 ≤ op ∧ op ≤ 6) (x : Cst) (n : Int) : (op = 1 ∧ signK op x n = ofB 1 x.u) ∨ (op = 2 ∧ signK op x n = notB (ofB 1 x.u)) ∨ (op = 3 ∧ signK op x n = belowK x.m n) ∨ (op = 4 ∧ signK op x n = upToK x.m n) ∨ (op = 5 ∧ signK op x n = notB (upToK x.m n)) ∨ (op = 6 ∧ signK op x n = notB (belowK x.m n)) := by
  rcases (by omega : op = 1 ∨ op = 2 ∨ op = 3 ∨ op = 4 ∨ op = 5 ∨ op = 6) with rfl | rfl | rfl | rfl | rfl | rfl
  · exact Or.inl ⟨rfl, rfl⟩
  · exact Or.inr (Or.inl ⟨rfl, rfl⟩)
  · exact Or.inr (Or.inr (Or.inl ⟨rfl, rfl⟩))
  · exact Or.inr (Or.inr (Or.inr (Or.inl ⟨rfl, rfl⟩)))
  · exact Or.inr (Or.inr (Or.inr (Or.inr (Or.inl ⟨rfl, rfl⟩))))
  · exact Or.inr (Or.inr (Or.inr (Or.inr (Or.inr ⟨rfl, rfl⟩))))
set_option maxHeartbeats 4000000 in
set_option maxRecDepth 100000 in
theorem ragainst_any (l : List Sst) (hl : LitSd l) (t c op n : Int) (ho : 1 ≤ op ∧ op ≤ 6) (A : Option Addr) (k : Nat) (w : World) (ra : SstsR (PRow w) A l) :
    Gives Tryz.prog 84 #[.slice A l.length k, .int .i64 t, .int .i64 c, .int .i64 op, .int .i64 n] w (.float .f64 (numK (heldAll l) op t c n)) := by
  have H1 : Hid (∀ W, Grew w W → Calls Tryz.prog 82 #[.slice A l.length k, .int .i64 t, .int .i64 c] W (KolF W (colK (heldAll l) t c))) := Lib.hid fun W hW => rcol_any l hl t c A k W (ra.grew hW)
  have H2 : Hid (∀ W, Grew w W → Calls Tryz.prog 43 #[.slice A l.length k, .int .i64 t] W (HelkF W (saidK l t))) := Lib.hid fun W hW => rsaid_any l hl t A k W (ra.grew hW)
  have hr := saidK_rows l t
  have hok := colK_ok (heldAll_ok l) t c
  unfold numK fillK
  rw [← hr] at hok ⊢
  clear hr
  generalize saidK l t = s at *
  generalize colK (heldAll l) t c = x at *
  obtain ⟨d, hd⟩ : ∃ d, s.rows - x.n = d := ⟨_, rfl⟩
  have e3 : IntKind.i64.wrap (s.rows - x.n) = d := by rw [← hd]; exact IntWalk.i64_in _ (by omega)
  rw [hd]
  have HF : Hid (∀ W, Gives Tryz.prog 81 #[.int .i64 d, .int .i64 s.rows] W (.float .f64 (ofB d s.rows))) := Lib.hid fun W => rof_any _ _ ⟨by omega, by omega⟩ ⟨by omega, by omega⟩ W
  have HU : Hid (∀ W, Gives Tryz.prog 81 #[.int .i64 1, .int .i64 x.u] W (.float .f64 (ofB 1 x.u))) := Lib.hid fun W => rof_any _ _ ⟨by omega, by omega⟩ ⟨by omega, by omega⟩ W
  have HM1 : Hid (∀ W B j, Row W B (iV x.m) → Gives Tryz.prog 108 #[.slice B x.m.length j, .int .i64 1, .int .i64 n] W (.float .f64 (belowK x.m n))) := Lib.hid fun W B j h => by
    have := rmarks_any 1 x.m (by omega) n B j W h
    rwa [markK_below] at this
  have HM2 : Hid (∀ W B j, Row W B (iV x.m) → Gives Tryz.prog 108 #[.slice B x.m.length j, .int .i64 2, .int .i64 n] W (.float .f64 (upToK x.m n))) := Lib.hid fun W B j h => by
    have := rmarks_any 2 x.m (by omega) n B j W h
    rwa [markK_upTo] at this
  have HS := Lib.hid (signs op ho x n)
  have hq := ofB_le 1 x.u
  have hp1 := belowK_le x.m n
  have hp2 := upToK_le x.m n
  have hfl := ofB_le d s.rows
  generalize signK op x n = sg at *
  generalize ofB d s.rows = fl at *
  generalize ofB 1 x.u = q at *
  generalize belowK x.m n = p1 at *
  generalize upToK x.m n = p2 at *
  have HNq : Hid (∀ W, Calls Tryz.prog 80 #[.float .f64 q] W fun e w' => e = .returned (.float .f64 (notB q)) ∧ w' = W) := Lib.hid fun W => frnot_any q (by omega) W
  have HN1 : Hid (∀ W, Calls Tryz.prog 80 #[.float .f64 p1] W fun e w' => e = .returned (.float .f64 (notB p1)) ∧ w' = W) := Lib.hid fun W => frnot_any p1 (by omega) W
  have HN2 : Hid (∀ W, Calls Tryz.prog 80 #[.float .f64 p2] W fun e w' => e = .returned (.float .f64 (notB p2)) ∧ w' = W) := Lib.hid fun W => frnot_any p2 (by omega) W
  have hnq := notB_le q
  have hn1 := notB_le p1
  have hn2 := notB_le p2
  generalize notB q = nq at *
  generalize notB p1 = n1 at *
  generalize notB p2 = n2 at *
  have HO := Lib.hid ho
  clear hd hok ra hl ho
  unfold Gives
  go_enter Tryz.func84, Tryz.ntmps84
  go_wp2_with fail
  refine (H1.out _ (Grew.refl w)).mono ?_
  rintro e w1 ⟨B1, j1, rfl, hg1, hr1⟩
  have HG1 := Lib.hid hg1
  have HR1 := Lib.hid hr1.plain
  clear hg1 hr1 H1
  go_upto_region 2 with fail
  obtain ⟨w2, hw2⟩ : ∃ w2, w2 = w1.alloc (.cells #[.int .i64 x.u, .int .i64 x.n, .slice B1 x.m.length j1] 109) := ⟨_, rfl⟩
  have HB2 : Hid (Blok w2 w1.heap.size 109 #[.int .i64 x.u, .int .i64 x.n, .slice B1 x.m.length j1]) := Lib.hid (by rw [hw2]; exact Blok.new _ _ _ _ rfl)
  have hg12 : Grew w1 w2 := by rw [hw2]; exact (Grew.refl _).alloc _
  have HG2 := Lib.hid (HG1.out.trans hg12)
  have HR2 := Lib.hid (HR1.out.grew hg12)
  rw [← hw2]
  clear hw2 hg12 HG1 HR1
  generalize w1.heap.size = g at *
  go_wp2_with fail
  refine (H2.out _ HG2.out).mono ?_
  rintro e w3 ⟨B3, j3, rfl, hg3, _⟩
  have HB3 := Lib.hid (HB2.out.grew hg3)
  have HG3 := Lib.hid (HG2.out.trans hg3)
  have HR3 := Lib.hid (HR2.out.grew hg3)
  clear hg3 H2 HB2 HG2 HR2
  obtain ⟨y1, y2, y3, y4, y5, y6, y7⟩ := boxC HB3.out
  go_upto_region 4 with (go_at_call 81; (with_reducible refine (HF.out _).grows.mono ?_); rintro e w4 ⟨rfl, hg4⟩; have HG4 := Lib.hid (HG3.out.trans hg4); have HB4 := Lib.hid (HB3.out.grew hg4); have HR4 := Lib.hid (HR3.out.grew hg4); clear hg4)
  clear y1 y2 y3 y4 y5 y6 y7 HG3 HB3 HR3 HF e3
  have hS0 : Grew w4 w4.drew := (Grew.refl w4).drew
  refine wp_region_S (fun W => Grew w4 W) (by kernel_rfl) ?_
  refine held_take 0 (v := ?_) rfl (by kernel_rfl) (by kernel_rfl) (by kernel_rfl) (fun _ _ _ h => h) (by rfl) ?_ hS0 ?_
  rotate_left
  · (intro W hW; obtain ⟨_, d0, d1, d2, _, _, _⟩ := boxC (HB4.out.grew hW); go_simp; with_reducible rfl)
  refine held_take 1 (v := ?_) rfl (by kernel_rfl) (by kernel_rfl) (by kernel_rfl) (fun _ _ _ h => h) (by rfl) ?_ hS0 ?_
  rotate_left
  · (intro W hW; obtain ⟨_, d0, d1, d2, _, _, _⟩ := boxC (HB4.out.grew hW); go_simp; with_reducible rfl)
  refine held_take 3 (v := ?_) rfl (by kernel_rfl) (by kernel_rfl) (by kernel_rfl) (fun _ _ _ h => h) (by rfl) ?_ hS0 ?_
  rotate_left
  · (intro W hW; obtain ⟨_, d0, d1, d2, _, _, _⟩ := boxC (HB4.out.grew hW); go_simp; with_reducible rfl)
  refine held_take 4 (v := ?_) rfl (by kernel_rfl) (by kernel_rfl) (by kernel_rfl) (fun _ _ _ h => h) (by rfl) ?_ hS0 ?_
  rotate_left
  · (intro W hW; obtain ⟨_, d0, d1, d2, _, _, _⟩ := boxC (HB4.out.grew hW); go_simp; with_reducible rfl)
  refine held_take 7 (v := ?_) rfl (by kernel_rfl) (by kernel_rfl) (by kernel_rfl) (fun _ _ _ h => h) (by rfl) ?_ hS0 ?_
  rotate_left
  · (intro W hW; obtain ⟨_, d0, d1, d2, _, _, _⟩ := boxC (HB4.out.grew hW); go_simp; with_reducible rfl)
  refine held_take 8 (v := ?_) rfl (by kernel_rfl) (by kernel_rfl) (by kernel_rfl) (fun _ _ _ h => h) (by rfl) ?_ hS0 ?_
  rotate_left
  · (intro W hW; obtain ⟨_, d0, d1, d2, _, _, _⟩ := boxC (HB4.out.grew hW); go_simp; with_reducible rfl)
  refine held_take 9 (v := ?_) rfl (by kernel_rfl) (by kernel_rfl) (by kernel_rfl) (fun _ _ _ h => h) (by rfl) ?_ hS0 ?_
  rotate_left
  · (intro W hW; obtain ⟨_, d0, d1, d2, _, _, _⟩ := boxC (HB4.out.grew hW); go_simp; with_reducible rfl)
  refine held_take 11 (v := ?_) rfl (by kernel_rfl) (by kernel_rfl) (by kernel_rfl) (fun _ _ _ h => h) (by rfl) ?_ hS0 ?_
  rotate_left
  · (intro W hW; obtain ⟨_, d0, d1, d2, _, _, _⟩ := boxC (HB4.out.grew hW); go_simp; with_reducible rfl)
  refine held_take 12 (v := ?_) rfl (by kernel_rfl) (by kernel_rfl) (by kernel_rfl) (fun _ _ _ h => h) (by rfl) ?_ hS0 ?_
  rotate_left
  · (intro W hW; obtain ⟨_, d0, d1, d2, _, _, _⟩ := boxC (HB4.out.grew hW); go_simp; with_reducible rfl)
  refine held_take 13 (v := ?_) rfl (by kernel_rfl) (by kernel_rfl) (by kernel_rfl) (fun _ _ _ h => h) (by rfl) ?_ hS0 ?_
  rotate_left
  · (intro W hW; obtain ⟨_, d0, d1, d2, _, _, _⟩ := boxC (HB4.out.grew hW); go_simp; with_reducible rfl)
  refine held_take 15 (v := ?_) rfl (by kernel_rfl) (by kernel_rfl) (by kernel_rfl) (fun _ _ _ h => h) (by rfl) ?_ hS0 ?_
  rotate_left
  · (intro W hW; obtain ⟨_, d0, d1, d2, _, _, _⟩ := boxC (HB4.out.grew hW); go_simp; with_reducible rfl)
  refine held_take 16 (v := ?_) rfl (by kernel_rfl) (by kernel_rfl) (by kernel_rfl) (fun _ _ _ h => h) (by rfl) ?_ hS0 ?_
  rotate_left
  · (intro W hW; obtain ⟨_, d0, d1, d2, _, _, _⟩ := boxC (HB4.out.grew hW); go_simp; with_reducible rfl)
  refine held_take 17 (v := ?_) rfl (by kernel_rfl) (by kernel_rfl) (by kernel_rfl) (fun _ _ _ h => h) (by rfl) ?_ hS0 ?_
  rotate_left
  · (intro W hW; obtain ⟨_, d0, d1, d2, _, _, _⟩ := boxC (HB4.out.grew hW); go_simp; with_reducible rfl)
  refine held_take 20 (v := ?_) rfl (by kernel_rfl) (by kernel_rfl) (by kernel_rfl) (fun _ _ _ h => h) (by rfl) ?_ hS0 ?_
  rotate_left
  · (intro W hW; obtain ⟨_, d0, d1, d2, _, _, _⟩ := boxC (HB4.out.grew hW); go_simp; with_reducible rfl)
  refine held_take 21 (v := ?_) rfl (by kernel_rfl) (by kernel_rfl) (by kernel_rfl) (fun _ _ _ h => h) (by rfl) ?_ hS0 ?_
  rotate_left
  · (intro W hW; obtain ⟨_, d0, d1, d2, _, _, _⟩ := boxC (HB4.out.grew hW); go_simp; with_reducible rfl)
  refine held_take 22 (v := ?_) rfl (by kernel_rfl) (by kernel_rfl) (by kernel_rfl) (fun _ _ _ h => h) (by rfl) ?_ hS0 ?_
  rotate_left
  · (intro W hW; obtain ⟨_, d0, d1, d2, _, _, _⟩ := boxC (HB4.out.grew hW); go_simp; with_reducible rfl)
  refine held_norm (a' := ?_) ?_ ?_
  rotate_left
  · (go_simp; with_reducible rfl)
  refine held_call 2 (by kernel_rfl) rfl (by rfl) (fun K hK => ?_)
  go_simp
  go_wp2_with ((go_at_call 81; (with_reducible refine (HU.out _).grows.mono ?_); rintro e5 w5 ⟨rfl, hg5⟩; have hS5 := hS0.trans hg5))
  refine hK.out _ _ hS5 ?_
  clear hK K
  refine held_call 5 (by kernel_rfl) rfl (by rfl) (fun K hK => ?_)
  go_simp
  go_wp2_with ((go_at_call 81; (with_reducible refine (HU.out _).grows.mono ?_); rintro e6 w6 ⟨rfl, hg6⟩; have hS6 := hS5.trans hg6))
  refine hK.out _ _ hS6 ?_
  clear hK K
  refine held_call 6 (by kernel_rfl) rfl (by rfl) (fun K hK => ?_)
  go_simp
  go_wp2_with ((go_at_call 80; (with_reducible refine (HNq.out _).mono ?_); rintro e7 w7 ⟨rfl, hw7⟩; subst hw7))
  refine hK.out _ _ hS6 ?_
  clear hK K
  refine held_call 10 (by kernel_rfl) rfl (by rfl) (fun K hK => ?_)
  go_simp
  go_wp2_with ((go_at_call 108; (with_reducible refine (HM1.out _ _ _ (HR4.out.grew hS6)).grows.mono ?_); rintro e8 w8 ⟨rfl, hg8⟩; have hS8 := hS6.trans hg8))
  refine hK.out _ _ hS8 ?_
  clear hK K
  refine held_call 14 (by kernel_rfl) rfl (by rfl) (fun K hK => ?_)
  go_simp
  go_wp2_with ((go_at_call 108; (with_reducible refine (HM2.out _ _ _ (HR4.out.grew hS8)).grows.mono ?_); rintro e9 w9 ⟨rfl, hg9⟩; have hS9 := hS8.trans hg9))
  refine hK.out _ _ hS9 ?_
  clear hK K
  refine held_call 18 (by kernel_rfl) rfl (by rfl) (fun K hK => ?_)
  go_simp
  go_wp2_with ((go_at_call 108; (with_reducible refine (HM2.out _ _ _ (HR4.out.grew hS9)).grows.mono ?_); rintro e10 w10 ⟨rfl, hg10⟩; have hS10 := hS9.trans hg10))
  refine hK.out _ _ hS10 ?_
  clear hK K
  refine held_call 19 (by kernel_rfl) rfl (by rfl) (fun K hK => ?_)
  go_simp
  go_wp2_with ((go_at_call 80; (with_reducible refine (HN2.out _).mono ?_); rintro e11 w11 ⟨rfl, hw11⟩; subst hw11))
  refine hK.out _ _ hS10 ?_
  clear hK K
  refine held_call 23 (by kernel_rfl) rfl (by rfl) (fun K hK => ?_)
  go_simp
  go_wp2_with ((go_at_call 108; (with_reducible refine (HM1.out _ _ _ (HR4.out.grew hS10)).grows.mono ?_); rintro e12 w12 ⟨rfl, hg12⟩; have hS12 := hS10.trans hg12))
  refine hK.out _ _ hS12 ?_
  clear hK K
  refine held_call 24 (by kernel_rfl) rfl (by rfl) (fun K hK => ?_)
  go_simp
  go_wp2_with ((go_at_call 80; (with_reducible refine (HN1.out _).mono ?_); rintro e13 w13 ⟨rfl, hw13⟩; subst hw13))
  refine hK.out _ _ hS12 ?_
  clear hK K
  refine held_call 25 (by kernel_rfl) rfl (by rfl) (fun K hK => ?_)
  go_simp
  go_wp2_with fail
  refine hK.out _ _ (hS12.alloc _) ?_
  clear hK K
  refine held_take 26 (v := ?_) rfl (by kernel_rfl) (by kernel_rfl) (by kernel_rfl) (fun _ _ _ h => h) (by rfl) ?_ (hS12.alloc _) ?_
  rotate_left
  · (intro W hW; go_simp; with_reducible rfl)
  refine held_norm (a' := ?_) ?_ ?_
  rotate_left
  · (go_simp; with_reducible rfl)
  refine held_done (by kernel_rfl) ?_
  have HGe := Lib.hid (HG4.out.trans hS12)
  clear hS12 hS10 hS9 hS8 hS6 hS5 hS0 hg12 hg10 hg9 hg8 hg6 hg5 HM1 HM2 HU HNq HN1 HN2 HB4 HR4 HG4
  obtain ⟨w14, hw14⟩ : ∃ w14, w14 = w13.alloc (.cells #[.float .f64 0, .float .f64 q, .float .f64 nq, .float .f64 p1, .float .f64 p2, .float .f64 n2, .float .f64 n1] 43) := ⟨_, rfl⟩
  have HB14 : Blok w14 w13.heap.size 43 #[.float .f64 0, .float .f64 q, .float .f64 nq, .float .f64 p1, .float .f64 p2, .float .f64 n2, .float .f64 n1] := by rw [hw14]; exact Blok.new _ _ _ _ rfl
  have HG14 : Hid (Grew w w14) := Lib.hid (by rw [hw14]; exact HGe.out.alloc _)
  rw [← hw14]
  clear hw14 HGe
  generalize w13.heap.size = g14 at *
  have b0 := HB14.cell 0
  have b1 := HB14.cell 1
  have b2 := HB14.cell 2
  have b3 := HB14.cell 3
  have b4 := HB14.cell 4
  have b5 := HB14.cell 5
  have b6 := HB14.cell 6
  have bl := HB14.lt
  simp at b0 b1 b2 b3 b4 b5 b6
  clear HB14 HO
  rcases HS.out with ⟨rfl, h⟩ | ⟨rfl, h⟩ | ⟨rfl, h⟩ | ⟨rfl, h⟩ | ⟨rfl, h⟩ | ⟨rfl, h⟩
  all_goals
    clear HS
    subst h
    go_wp2_with (go_at_call 44; (with_reducible refine (rand2 _ _ (by assumption) (by assumption) _ _ _ (row_new _ _ _ _ rfl)).mono ?_); rintro e15 w15 ⟨rfl, hw15⟩; subst hw15)
    go_ret
    exact ⟨rfl, HG14.out.alloc _⟩
end Go.Proofs.YtbglmcebkpkccaaGreatDoor

/- Layer 29: the share of a column, a sign and a number, by the program. Condition: what is held, in memory that is there. -/
namespace Go.Proofs.YtbglmcebkpkccaaGreatDoor
open Go.RowKit
attribute [local go_sem] more_cell more_frozen more_more more_setCell more_of_drew more_of_drewN lt_more le_more past_cell past_cell2 past_frozen past_frozen2 past_setCell past_setCell2 mid_cell mid_frozen mid_setCell
attribute [local go_sem] fldC0 fldC1 fldS0
attribute [local go_sem ↓] Go.wp_at_zero Go.wp_at_succ

theorem held_pair {P : Program} {ops : Array Oper} {Q : Exit → Act → World → Prop} {wc : World} {S : World → Prop} (i j : Nat) {o o' : Oper} {fuel : Nat} {listed : Array Bool} {a : Act} (hr : Region.ready .any ops listed = [i, j]) (ho : ops[i]? = some o) (ho' : ops[j]? = some o') (hw : Region.wanted o (yielded ops a.tmps) = true) (hw' : Region.wanted o' (yielded ops a.tmps) = true)
    (h : ∀ K' : Act → World → Prop, Hid (∀ a W, S W → wpAnyH P .any ops Q S fuel (listed.setIfInBounds i true) a W → K' a W) → Oper.wp P o a wc K' Q)
    (h' : ∀ K' : Act → World → Prop, Hid (∀ a W, S W → wpAnyH P .any ops Q S fuel (listed.setIfInBounds j true) a W → K' a W) → Oper.wp P o' a wc K' Q) : wpAnyH P .any ops Q S (fuel + 1) listed a wc := by
  refine wpAnyH_ready hr (by simp) (AllReadyH.cons ho (fun K' hK => ?_) (AllReadyH.cons ho' (fun K' hK => ?_) AllReadyH.nil))
  · rw [if_pos hw]
    exact h K' (Lib.hid fun a W hG hW => hK.out a W hG (fun _ => hW))
  · rw [if_pos hw']
    exact h' K' (Lib.hid fun a W hG hW => hK.out a W hG (fun _ => hW))
def NumAt (w : World) (x : Cst) (r : Int) (u v : Value) (wx : World) : Prop := ∃ g B j, u = .pointer (some ⟨g, 0, none⟩) ∧ v = .int .i64 r ∧ Blok wx g 109 #[.int .i64 x.u, .int .i64 x.n, .slice B x.m.length j] ∧ Row wx B (iV x.m) ∧ Grew w wx
theorem signs_any (op : Int) (x : Cst) (n : Int) : (op = 1 ∧ signK op x n = ofB 1 x.u) ∨ (op = 2 ∧ signK op x n = notB (ofB 1 x.u)) ∨ (op = 3 ∧ signK op x n = belowK x.m n) ∨ (op = 4 ∧ signK op x n = upToK x.m n) ∨ (op = 5 ∧ signK op x n = notB (upToK x.m n)) ∨ ((op ≠ 1 ∧ op ≠ 2 ∧ op ≠ 3 ∧ op ≠ 4 ∧ op ≠ 5) ∧ signK op x n = notB (belowK x.m n)) := by
  by_cases h1 : op = 1
  · subst h1; exact Or.inl ⟨rfl, rfl⟩
  by_cases h2 : op = 2
  · subst h2; exact Or.inr (Or.inl ⟨rfl, rfl⟩)
  by_cases h3 : op = 3
  · subst h3; exact Or.inr (Or.inr (Or.inl ⟨rfl, rfl⟩))
  by_cases h4 : op = 4
  · subst h4; exact Or.inr (Or.inr (Or.inr (Or.inl ⟨rfl, rfl⟩)))
  by_cases h5 : op = 5
  · subst h5; exact Or.inr (Or.inr (Or.inr (Or.inr (Or.inl ⟨rfl, rfl⟩))))
  · refine Or.inr (Or.inr (Or.inr (Or.inr (Or.inr ⟨⟨h1, h2, h3, h4, h5⟩, ?_⟩))))
    unfold signK
    rw [if_neg h1, if_neg h2, if_neg h3, if_neg h4, if_neg h5]
set_option maxHeartbeats 4000000 in
set_option maxRecDepth 100000 in
theorem knum_any (sd : List Sst) (hs : OkSd sd) (op : Int) (y : Ex) (n : Int) (Ay : Option Addr) (ky : Nat) (A : Option Addr) (k : Nat) (w : World) (ra : SstsR (PRow w) A sd) :
    Gives Tryz.prog 140 #[.slice A sd.length k, .int .i64 op, exV y Ay ky, .int .i64 n] w (.float .f64 (numK sd op y.t y.c n)) := by
  have H1 : Hid (∀ W, Grew w W → Calls Tryz.prog 112 #[.slice A sd.length k, .int .i64 y.t, .int .i64 y.c] W (KolF W (colK sd y.t y.c))) := Lib.hid fun W hW => kcol_any sd hs y.t y.c A k W (ra.grew hW)
  have H2 : Hid (∀ W, Grew w W → Gives Tryz.prog 78 #[.slice A sd.length k, .int .i64 y.t] W (.int .i64 (rowsK sd y.t))) := Lib.hid fun W hW => krows_any sd y.t A k W (ra.grew hW)
  have hok := colK_ok hs y.t y.c
  unfold numK fillK
  obtain ⟨r, hr⟩ : ∃ r, rowsK sd y.t = r := ⟨_, rfl⟩
  rw [hr] at hok H2 ⊢
  clear hr
  generalize colK sd y.t y.c = x at *
  obtain ⟨d, hd⟩ : ∃ d, r - x.n = d := ⟨_, rfl⟩
  have e3 : IntKind.i64.wrap (r - x.n) = d := by rw [← hd]; exact IntWalk.i64_in _ (by omega)
  rw [hd]
  have HF : Hid (∀ W, Gives Tryz.prog 111 #[.int .i64 d, .int .i64 r] W (.float .f64 (ofB d r))) := Lib.hid fun W => fof_any _ _ ⟨by omega, by omega⟩ ⟨by omega, by omega⟩ W
  have HU : Hid (∀ W, Gives Tryz.prog 111 #[.int .i64 1, .int .i64 x.u] W (.float .f64 (ofB 1 x.u))) := Lib.hid fun W => fof_any _ _ ⟨by omega, by omega⟩ ⟨by omega, by omega⟩ W
  have HM1 : Hid (∀ W B j, Row W B (iV x.m) → Gives Tryz.prog 144 #[.slice B x.m.length j, .int .i64 n] W (.float .f64 (belowK x.m n))) := Lib.hid fun W B j h => kbelow_any x.m (by omega) n B j W h
  have HM2 : Hid (∀ W B j, Row W B (iV x.m) → Gives Tryz.prog 145 #[.slice B x.m.length j, .int .i64 n] W (.float .f64 (upToK x.m n))) := Lib.hid fun W B j h => kupTo_any x.m (by omega) n B j W h
  have HS := Lib.hid (signs_any op x n)
  have hq := ofB_le 1 x.u
  have hp1 := belowK_le x.m n
  have hp2 := upToK_le x.m n
  have hfl := ofB_le d r
  generalize signK op x n = sg at *
  generalize ofB d r = fl at *
  generalize ofB 1 x.u = q at *
  generalize belowK x.m n = p1 at *
  generalize upToK x.m n = p2 at *
  have HNq : Hid (∀ W, Calls Tryz.prog 129 #[.float .f64 q] W fun e w' => e = .returned (.float .f64 (notB q)) ∧ w' = W) := Lib.hid fun W => fnot_any q (by omega) W
  have HN1 : Hid (∀ W, Calls Tryz.prog 129 #[.float .f64 p1] W fun e w' => e = .returned (.float .f64 (notB p1)) ∧ w' = W) := Lib.hid fun W => fnot_any p1 (by omega) W
  have HN2 : Hid (∀ W, Calls Tryz.prog 129 #[.float .f64 p2] W fun e w' => e = .returned (.float .f64 (notB p2)) ∧ w' = W) := Lib.hid fun W => fnot_any p2 (by omega) W
  have hnq := notB_le q
  have hn1 := notB_le p1
  have hn2 := notB_le p2
  generalize notB q = nq at *
  generalize notB p1 = n1 at *
  generalize notB p2 = n2 at *
  obtain ⟨W0, hW0⟩ : ∃ W0, W0 = w.alloc (.cells (exC y Ay ky).toArray 27) := ⟨_, rfl⟩
  have HG0 : Hid (Grew w W0) := Lib.hid (by rw [hW0]; exact (Grew.refl w).alloc _)
  have HX0 : Hid (Blok W0 w.heap.size 27 (exC y Ay ky).toArray) := Lib.hid (by rw [hW0]; exact Blok.new _ _ _ _ rfl)
  clear hd hok ra hs
  unfold exV
  unfold exC at hW0
  unfold Gives
  go_enter Tryz.func140, Tryz.ntmps140
  go_upto_region 1 with fail
  rw [← hW0]
  clear hW0
  have hS0 : Grew W0 W0.drew := (Grew.refl W0).drew
  go_cut [9, 10] (fun u v wx => NumAt w x r u v wx)
  case first =>
    refine wp_region_S (fun W => Grew W0 W) (by kernel_rfl) ?_
    refine held_take 0 (v := ?_) rfl (by kernel_rfl) (by kernel_rfl) (by kernel_rfl) (fun _ _ _ h => h) (by rfl) ?_ hS0 ?_
    rotate_left
    · (intro W hW; obtain ⟨_, m0, m1, m2, m3, m4, m5, m6, m7, m8⟩ := blok9 (HX0.out.grew hW); go_simp; with_reducible rfl)
    refine held_take 1 (v := ?_) rfl (by kernel_rfl) (by kernel_rfl) (by kernel_rfl) (fun _ _ _ h => h) (by rfl) ?_ hS0 ?_
    rotate_left
    · (intro W hW; obtain ⟨_, m0, m1, m2, m3, m4, m5, m6, m7, m8⟩ := blok9 (HX0.out.grew hW); go_simp; with_reducible rfl)
    refine held_take 2 (v := ?_) rfl (by kernel_rfl) (by kernel_rfl) (by kernel_rfl) (fun _ _ _ h => h) (by rfl) ?_ hS0 ?_
    rotate_left
    · (intro W hW; obtain ⟨_, m0, m1, m2, m3, m4, m5, m6, m7, m8⟩ := blok9 (HX0.out.grew hW); go_simp; with_reducible rfl)
    refine held_take 3 (v := ?_) rfl (by kernel_rfl) (by kernel_rfl) (by kernel_rfl) (fun _ _ _ h => h) (by rfl) ?_ hS0 ?_
    rotate_left
    · (intro W hW; obtain ⟨_, m0, m1, m2, m3, m4, m5, m6, m7, m8⟩ := blok9 (HX0.out.grew hW); go_simp; with_reducible rfl)
    refine held_take 4 (v := ?_) rfl (by kernel_rfl) (by kernel_rfl) (by kernel_rfl) (fun _ _ _ h => h) (by rfl) ?_ hS0 ?_
    rotate_left
    · (intro W hW; obtain ⟨_, m0, m1, m2, m3, m4, m5, m6, m7, m8⟩ := blok9 (HX0.out.grew hW); go_simp; with_reducible rfl)
    refine held_take 6 (v := ?_) rfl (by kernel_rfl) (by kernel_rfl) (by kernel_rfl) (fun _ _ _ h => h) (by rfl) ?_ hS0 ?_
    rotate_left
    · (intro W hW; obtain ⟨_, m0, m1, m2, m3, m4, m5, m6, m7, m8⟩ := blok9 (HX0.out.grew hW); go_simp; with_reducible rfl)
    refine held_take 7 (v := ?_) rfl (by kernel_rfl) (by kernel_rfl) (by kernel_rfl) (fun _ _ _ h => h) (by rfl) ?_ hS0 ?_
    rotate_left
    · (intro W hW; obtain ⟨_, m0, m1, m2, m3, m4, m5, m6, m7, m8⟩ := blok9 (HX0.out.grew hW); go_simp; with_reducible rfl)
    refine held_take 8 (v := ?_) rfl (by kernel_rfl) (by kernel_rfl) (by kernel_rfl) (fun _ _ _ h => h) (by rfl) ?_ hS0 ?_
    rotate_left
    · (intro W hW; obtain ⟨_, m0, m1, m2, m3, m4, m5, m6, m7, m8⟩ := blok9 (HX0.out.grew hW); go_simp; with_reducible rfl)
    refine held_norm (a' := ?_) ?_ ?_
    rotate_left
    · (go_simp; with_reducible rfl)
    generalize W0.drew = W1 at *
    refine held_pair 5 10 (by kernel_rfl) rfl rfl (by rfl) (by rfl) (fun K hK => ?_) (fun K hK => ?_)
    · go_simp
      go_wp2_with (go_at_call 112; (with_reducible refine (H1.out _ (HG0.out.trans hS0)).mono ?_); rintro e5 w5 ⟨B5, j5, rfl, hg5, hr5⟩; have hS5 := (hS0).trans hg5)
      refine hK.out _ _ hS5 ?_
      clear hK K
      refine held_pair 9 10 (by kernel_rfl) rfl rfl (by rfl) (by rfl) (fun K hK => ?_) (fun K hK => ?_)
      · go_simp
        go_wp2_with (go_at_call 78; (with_reducible refine ((H2.out _ (HG0.out.trans hS5)).grows).mono ?_); rintro e9 w9 ⟨rfl, hg9⟩; have hS9 := (hS5).trans hg9)
        refine hK.out _ _ hS9 ?_
        clear hK K
        refine held_call 10 (by kernel_rfl) rfl (by rfl) (fun K hK => ?_)
        go_simp
        go_wp2_with fail
        refine hK.out _ _ (hS9.alloc _) ?_
        clear hK K
        obtain ⟨Wx, hWx⟩ : ∃ Wx, Wx = w9.alloc (.cells #[.int .i64 0, .int .i64 0, .slice none 0 0] 109) := ⟨_, rfl⟩
        have hB : Blok Wx w9.heap.size 109 #[.int .i64 0, .int .i64 0, .slice none 0 0] := by rw [hWx]; exact Blok.new _ _ _ _ rfl
        have hSx : Grew W0 Wx := by rw [hWx]; exact (hS9).alloc _
        have hle : W0.heap.size ≤ w9.heap.size := (hS9).size
        have hgx : Grew w9 Wx := by rw [hWx]; exact (Grew.refl _).alloc _
        rw [← hWx]
        clear hWx
        generalize w9.heap.size = g at *
        have hT := (hr5.grew hg9).grew hgx
        obtain ⟨z1, z2, z3, z4, z5, z6, z7⟩ := boxC hB
        refine held_call 11 (by kernel_rfl) rfl (by rfl) (fun K hK => ?_)
        go_simp
        go_wp2_with fail
        refine hK.out _ _ (Grew.setCell (Grew.setCell (Grew.setCell hSx (a := ⟨g, 0, none⟩) hle _) (a := ⟨g, 1, none⟩) hle _) (a := ⟨g, 2, none⟩) hle _) ?_
        clear hK K
        refine held_take 12 (v := ?_) rfl (by kernel_rfl) (by kernel_rfl) (by kernel_rfl) (fun _ _ _ h => h) (by rfl) ?_ (Grew.setCell (Grew.setCell (Grew.setCell hSx (a := ⟨g, 0, none⟩) hle _) (a := ⟨g, 1, none⟩) hle _) (a := ⟨g, 2, none⟩) hle _) ?_
        rotate_left
        · (intro W hW; go_simp; with_reducible rfl)
        refine held_norm (a' := ?_) ?_ ?_
        rotate_left
        · (go_simp; with_reducible rfl)
        refine held_done (by kernel_rfl) ?_
        go_wp2_with fail
        go_meet
        exact ⟨g, B5, j5, rfl, rfl, box3 hB _ _ _, (hT.apart ((((Turns.refl _ _).set 0 _).set 1 _).set 2 _) hB neCS).plain, HG0.out.trans (Grew.setCell (Grew.setCell (Grew.setCell hSx (a := ⟨g, 0, none⟩) hle _) (a := ⟨g, 1, none⟩) hle _) (a := ⟨g, 2, none⟩) hle _)⟩
      · go_simp
        go_wp2_with fail
        refine hK.out _ _ (hS5.alloc _) ?_
        clear hK K
        obtain ⟨Wx, hWx⟩ : ∃ Wx, Wx = w5.alloc (.cells #[.int .i64 0, .int .i64 0, .slice none 0 0] 109) := ⟨_, rfl⟩
        have hB : Blok Wx w5.heap.size 109 #[.int .i64 0, .int .i64 0, .slice none 0 0] := by rw [hWx]; exact Blok.new _ _ _ _ rfl
        have hSx : Grew W0 Wx := by rw [hWx]; exact (hS5).alloc _
        have hle : W0.heap.size ≤ w5.heap.size := (hS5).size
        have hgx : Grew w5 Wx := by rw [hWx]; exact (Grew.refl _).alloc _
        rw [← hWx]
        clear hWx
        generalize w5.heap.size = g at *
        refine held_call 9 (by kernel_rfl) rfl (by rfl) (fun K hK => ?_)
        go_simp
        go_wp2_with (go_at_call 78; (with_reducible refine ((H2.out _ (HG0.out.trans hSx)).grows).mono ?_); rintro e9 w9 ⟨rfl, hg9⟩; have hS9 := (hSx).trans hg9)
        refine hK.out _ _ hS9 ?_
        clear hK K
        have hT := (hr5.grew hgx).grew hg9
        replace hB := hB.grew hg9
        replace hSx := hS9
        obtain ⟨z1, z2, z3, z4, z5, z6, z7⟩ := boxC hB
        refine held_call 11 (by kernel_rfl) rfl (by rfl) (fun K hK => ?_)
        go_simp
        go_wp2_with fail
        refine hK.out _ _ (Grew.setCell (Grew.setCell (Grew.setCell hSx (a := ⟨g, 0, none⟩) hle _) (a := ⟨g, 1, none⟩) hle _) (a := ⟨g, 2, none⟩) hle _) ?_
        clear hK K
        refine held_take 12 (v := ?_) rfl (by kernel_rfl) (by kernel_rfl) (by kernel_rfl) (fun _ _ _ h => h) (by rfl) ?_ (Grew.setCell (Grew.setCell (Grew.setCell hSx (a := ⟨g, 0, none⟩) hle _) (a := ⟨g, 1, none⟩) hle _) (a := ⟨g, 2, none⟩) hle _) ?_
        rotate_left
        · (intro W hW; go_simp; with_reducible rfl)
        refine held_norm (a' := ?_) ?_ ?_
        rotate_left
        · (go_simp; with_reducible rfl)
        refine held_done (by kernel_rfl) ?_
        go_wp2_with fail
        go_meet
        exact ⟨g, B5, j5, rfl, rfl, box3 hB _ _ _, (hT.apart ((((Turns.refl _ _).set 0 _).set 1 _).set 2 _) hB neCS).plain, HG0.out.trans (Grew.setCell (Grew.setCell (Grew.setCell hSx (a := ⟨g, 0, none⟩) hle _) (a := ⟨g, 1, none⟩) hle _) (a := ⟨g, 2, none⟩) hle _)⟩
    · go_simp
      go_wp2_with fail
      refine hK.out _ _ (hS0.alloc _) ?_
      clear hK K
      obtain ⟨Wx, hWx⟩ : ∃ Wx, Wx = W1.alloc (.cells #[.int .i64 0, .int .i64 0, .slice none 0 0] 109) := ⟨_, rfl⟩
      have hB : Blok Wx W1.heap.size 109 #[.int .i64 0, .int .i64 0, .slice none 0 0] := by rw [hWx]; exact Blok.new _ _ _ _ rfl
      have hSx : Grew W0 Wx := by rw [hWx]; exact (hS0).alloc _
      have hle : W0.heap.size ≤ W1.heap.size := (hS0).size
      have hgx : Grew W1 Wx := by rw [hWx]; exact (Grew.refl _).alloc _
      rw [← hWx]
      clear hWx
      generalize W1.heap.size = g at *
      refine held_call 5 (by kernel_rfl) rfl (by rfl) (fun K hK => ?_)
      go_simp
      go_wp2_with (go_at_call 112; (with_reducible refine (H1.out _ (HG0.out.trans hSx)).mono ?_); rintro e5 w5 ⟨B5, j5, rfl, hg5, hr5⟩; have hS5 := (hSx).trans hg5)
      refine hK.out _ _ hS5 ?_
      clear hK K
      refine held_call 9 (by kernel_rfl) rfl (by rfl) (fun K hK => ?_)
      go_simp
      go_wp2_with (go_at_call 78; (with_reducible refine ((H2.out _ (HG0.out.trans hS5)).grows).mono ?_); rintro e9 w9 ⟨rfl, hg9⟩; have hS9 := (hS5).trans hg9)
      refine hK.out _ _ hS9 ?_
      clear hK K
      have hT := hr5.grew hg9
      replace hB := (hB.grew hg5).grew hg9
      replace hSx := hS9
      obtain ⟨z1, z2, z3, z4, z5, z6, z7⟩ := boxC hB
      refine held_call 11 (by kernel_rfl) rfl (by rfl) (fun K hK => ?_)
      go_simp
      go_wp2_with fail
      refine hK.out _ _ (Grew.setCell (Grew.setCell (Grew.setCell hSx (a := ⟨g, 0, none⟩) hle _) (a := ⟨g, 1, none⟩) hle _) (a := ⟨g, 2, none⟩) hle _) ?_
      clear hK K
      refine held_take 12 (v := ?_) rfl (by kernel_rfl) (by kernel_rfl) (by kernel_rfl) (fun _ _ _ h => h) (by rfl) ?_ (Grew.setCell (Grew.setCell (Grew.setCell hSx (a := ⟨g, 0, none⟩) hle _) (a := ⟨g, 1, none⟩) hle _) (a := ⟨g, 2, none⟩) hle _) ?_
      rotate_left
      · (intro W hW; go_simp; with_reducible rfl)
      refine held_norm (a' := ?_) ?_ ?_
      rotate_left
      · (go_simp; with_reducible rfl)
      refine held_done (by kernel_rfl) ?_
      go_wp2_with fail
      go_meet
      exact ⟨g, B5, j5, rfl, rfl, box3 hB _ _ _, (hT.apart ((((Turns.refl _ _).set 0 _).set 1 _).set 2 _) hB neCS).plain, HG0.out.trans (Grew.setCell (Grew.setCell (Grew.setCell hSx (a := ⟨g, 0, none⟩) hle _) (a := ⟨g, 1, none⟩) hle _) (a := ⟨g, 2, none⟩) hle _)⟩
  case rest =>
    obtain ⟨g, B, j, rfl, rfl, hB, hR, hG⟩ := hcut
    have HGc := Lib.hid hG
    have HBc := Lib.hid hB
    have HRc := Lib.hid hR
    obtain ⟨y1, y2, y3, y4, y5, y6, y7⟩ := boxC hB
    clear hB hR hG HG0 HX0 H1 H2 hS0
    rcases HS.out with ⟨rfl, h⟩ | ⟨rfl, h⟩ | ⟨rfl, h⟩ | ⟨rfl, h⟩ | ⟨rfl, h⟩ | ⟨⟨o1, o2, o3, o4, o5⟩, h⟩
    rotate_left 5
    · have q1 : (op == 1) = false := by rw [beq_eq_false_iff_ne]; exact o1
      have q2 : (op == 2) = false := by rw [beq_eq_false_iff_ne]; exact o2
      have q3 : (op == 3) = false := by rw [beq_eq_false_iff_ne]; exact o3
      have q4 : (op == 4) = false := by rw [beq_eq_false_iff_ne]; exact o4
      have q5 : (op == 5) = false := by rw [beq_eq_false_iff_ne]; exact o5
      clear HS o1 o2 o3 o4 o5
      subst h
      go_wp2_with (first | (go_at_call_of 111 (Value.int .i64 d); (with_reducible refine (HF.out _).grows.mono ?_); rintro en wn ⟨rfl, hgn⟩; have HGc := Lib.hid (HGc.out.trans hgn); have HBc := Lib.hid (HBc.out.grew hgn); have HRc := Lib.hid (HRc.out.grew hgn); obtain ⟨y1, y2, y3, y4, y5, y6, y7⟩ := boxC HBc.out; clear hgn) | (go_at_call 111; (with_reducible refine (HU.out _).grows.mono ?_); rintro en wn ⟨rfl, hgn⟩; have HGc := Lib.hid (HGc.out.trans hgn); have HBc := Lib.hid (HBc.out.grew hgn); have HRc := Lib.hid (HRc.out.grew hgn); obtain ⟨y1, y2, y3, y4, y5, y6, y7⟩ := boxC HBc.out; clear hgn) | (go_at_call 144; (with_reducible refine (HM1.out _ _ _ HRc.out).grows.mono ?_); rintro en wn ⟨rfl, hgn⟩; have HGc := Lib.hid (HGc.out.trans hgn); have HBc := Lib.hid (HBc.out.grew hgn); have HRc := Lib.hid (HRc.out.grew hgn); obtain ⟨y1, y2, y3, y4, y5, y6, y7⟩ := boxC HBc.out; clear hgn) | (go_at_call 145; (with_reducible refine (HM2.out _ _ _ HRc.out).grows.mono ?_); rintro en wn ⟨rfl, hgn⟩; have HGc := Lib.hid (HGc.out.trans hgn); have HBc := Lib.hid (HBc.out.grew hgn); have HRc := Lib.hid (HRc.out.grew hgn); obtain ⟨y1, y2, y3, y4, y5, y6, y7⟩ := boxC HBc.out; clear hgn) | (go_at_call 129; (first | (with_reducible refine (HNq.out _).mono ?_) | (with_reducible refine (HN1.out _).mono ?_) | (with_reducible refine (HN2.out _).mono ?_)); rintro en wn ⟨rfl, hwn⟩; subst hwn) | (go_at_call 55; (first | (with_reducible refine (and2 _ _ (by assumption) (by assumption) _ _ _ (row_new _ _ _ _ rfl)).mono ?_)); rintro en wn ⟨rfl, hwn⟩; subst hwn))
      go_ret
      exact ⟨rfl, HGc.out.alloc _⟩
    all_goals
      clear HS
      subst h
      go_wp2_with (first | (go_at_call_of 111 (Value.int .i64 d); (with_reducible refine (HF.out _).grows.mono ?_); rintro en wn ⟨rfl, hgn⟩; have HGc := Lib.hid (HGc.out.trans hgn); have HBc := Lib.hid (HBc.out.grew hgn); have HRc := Lib.hid (HRc.out.grew hgn); obtain ⟨y1, y2, y3, y4, y5, y6, y7⟩ := boxC HBc.out; clear hgn) | (go_at_call 111; (with_reducible refine (HU.out _).grows.mono ?_); rintro en wn ⟨rfl, hgn⟩; have HGc := Lib.hid (HGc.out.trans hgn); have HBc := Lib.hid (HBc.out.grew hgn); have HRc := Lib.hid (HRc.out.grew hgn); obtain ⟨y1, y2, y3, y4, y5, y6, y7⟩ := boxC HBc.out; clear hgn) | (go_at_call 144; (with_reducible refine (HM1.out _ _ _ HRc.out).grows.mono ?_); rintro en wn ⟨rfl, hgn⟩; have HGc := Lib.hid (HGc.out.trans hgn); have HBc := Lib.hid (HBc.out.grew hgn); have HRc := Lib.hid (HRc.out.grew hgn); obtain ⟨y1, y2, y3, y4, y5, y6, y7⟩ := boxC HBc.out; clear hgn) | (go_at_call 145; (with_reducible refine (HM2.out _ _ _ HRc.out).grows.mono ?_); rintro en wn ⟨rfl, hgn⟩; have HGc := Lib.hid (HGc.out.trans hgn); have HBc := Lib.hid (HBc.out.grew hgn); have HRc := Lib.hid (HRc.out.grew hgn); obtain ⟨y1, y2, y3, y4, y5, y6, y7⟩ := boxC HBc.out; clear hgn) | (go_at_call 129; (first | (with_reducible refine (HNq.out _).mono ?_) | (with_reducible refine (HN1.out _).mono ?_) | (with_reducible refine (HN2.out _).mono ?_)); rintro en wn ⟨rfl, hwn⟩; subst hwn) | (go_at_call 55; (first | (with_reducible refine (and2 _ _ (by assumption) (by assumption) _ _ _ (row_new _ _ _ _ rfl)).mono ?_)); rintro en wn ⟨rfl, hwn⟩; subst hwn))
      go_ret
      exact ⟨rfl, HGc.out.alloc _⟩
end Go.Proofs.YtbglmcebkpkccaaGreatDoor

/- Layer 29: the share of a sign between two sides, by the program. Condition: what is held, in memory that is there; the turned signs as they are laid. -/
namespace Go.Proofs.YtbglmcebkpkccaaGreatDoor
open Go.RowKit
attribute [local go_sem] more_cell more_frozen more_more more_setCell more_of_drew more_of_drewN lt_more le_more past_cell past_cell2 past_frozen past_frozen2 past_setCell past_setCell2 mid_cell mid_frozen mid_setCell
attribute [local go_sem] fldC0 fldC1 fldS0
attribute [local go_sem ↓] Go.wp_at_zero Go.wp_at_succ

theorem cell_grewK {w w' : World} (g : Grew w w') {b o : Nat} {v : Value} (hb : b < w.heap.size) (hc : w.cell? ⟨b, o, none⟩ = some v) : b < w'.heap.size ∧ w'.cell? ⟨b, o, none⟩ = some v := by
  obtain ⟨x, rfl⟩ := g
  exact ⟨lt_more _ _ _ hb, by rw [more_cell _ _ _ hb]; exact hc⟩
/-- The turned signs, as they are laid. -/
structure TurnC (w : World) : Prop where
  lt : 3 < w.heap.size
  c1 : w.cell? ⟨3, 1, none⟩ = some (.int .i64 1)
  c2 : w.cell? ⟨3, 2, none⟩ = some (.int .i64 2)
  c3 : w.cell? ⟨3, 3, none⟩ = some (.int .i64 5)
  c4 : w.cell? ⟨3, 4, none⟩ = some (.int .i64 6)
  c5 : w.cell? ⟨3, 5, none⟩ = some (.int .i64 3)
  c6 : w.cell? ⟨3, 6, none⟩ = some (.int .i64 4)
theorem TurnC.grew {w w' : World} (h : TurnC w) (g : Grew w w') : TurnC w' :=
  ⟨(cell_grewK g h.lt h.c1).1, (cell_grewK g h.lt h.c1).2, (cell_grewK g h.lt h.c2).2, (cell_grewK g h.lt h.c3).2, (cell_grewK g h.lt h.c4).2, (cell_grewK g h.lt h.c5).2, (cell_grewK g h.lt h.c6).2⟩
set_option maxHeartbeats 4000000 in
set_option maxRecDepth 100000 in
theorem kcmp_any (sd : List Sst) (hs : OkSd sd) (op : Int) (ho : 1 ≤ op ∧ op ≤ 6) (a b : Ex) (Aa Ab : Option Addr) (ka kb : Nat) (A : Option Addr) (k : Nat) (w : World) (ra : SstsR (PRow w) A sd) (ht : TurnC w) :
    Gives Tryz.prog 131 #[.slice A sd.length k, .int .i64 op, exV a Aa ka, exV b Ab kb] w (.float .f64 (cmpK sd op a b)) := by
  have HA := Lib.hid (knumber_any a Aa ka)
  have HB := Lib.hid (knumber_any b Ab kb)
  have HNa : Hid (∀ W, Grew w W → Gives Tryz.prog 140 #[.slice A sd.length k, .int .i64 op, exV a Aa ka, .int .i64 b.vi] W (.float .f64 (numK sd op a.t a.c b.vi))) := Lib.hid fun W hW => knum_any sd hs op a b.vi Aa ka A k W (ra.grew hW)
  have HNt : Hid (∀ W, Grew w W → Gives Tryz.prog 140 #[.slice A sd.length k, .int .i64 (turnK op), exV b Ab kb, .int .i64 a.vi] W (.float .f64 (numK sd (turnK op) b.t b.c a.vi))) := Lib.hid fun W hW => knum_any sd hs (turnK op) b a.vi Ab kb A k W (ra.grew hW)
  have HSm : Hid (∀ W, Grew w W → Gives Tryz.prog 88 #[.slice A sd.length k, .int .i64 a.t, .int .i64 a.c, .int .i64 b.t, .int .i64 b.c] W (.float .f64 (sameK sd a.t a.c b.t b.c))) := Lib.hid fun W hW => ksame_any sd hs a.t a.c b.t b.c A k W (ra.grew hW)
  obtain ⟨W0, hW0⟩ : ∃ W0, W0 = (w.alloc (.cells (exC a Aa ka).toArray 27)).alloc (.cells (exC b Ab kb).toArray 27) := ⟨_, rfl⟩
  have HG0 : Hid (Grew w W0) := Lib.hid (by rw [hW0]; exact ((Grew.refl w).alloc _).alloc _)
  have HX0 : Hid (Blok W0 w.heap.size 27 (exC a Aa ka).toArray) := Lib.hid (by rw [hW0]; exact (Blok.new _ _ _ _ rfl).alloc _)
  have HY0 : Hid (Blok W0 (w.heap.size + 1) 27 (exC b Ab kb).toArray) := Lib.hid (by rw [hW0]; exact Blok.new _ _ _ _ (by simp))
  have HTn := Lib.hid ht
  have ho1 := ho.1
  have ho6 := ho.2
  obtain ⟨x0, m0, m1, m2, m3, m4, m5, m6, m7, m8⟩ := blok9 HX0.out
  obtain ⟨y0, n0, n1, n2, n3, n4, n5, n6, n7, n8⟩ := blok9 HY0.out
  clear ra hs ht ho
  have hgen : ∀ v, Gives Tryz.prog 131 #[.slice A sd.length k, .int .i64 op, exV a Aa ka, exV b Ab kb] w (.float .f64 v) → cmpK sd op a b = v → Gives Tryz.prog 131 #[.slice A sd.length k, .int .i64 op, exV a Aa ka, exV b Ab kb] w (.float .f64 (cmpK sd op a b)) := fun v h e => e ▸ h
  by_cases a15 : a.op = 15
  · have na : isNum a = false := by unfold isNum; rw [a15]; rfl
    by_cases nb : isNum b = true
    · have h0 : True := trivial
      refine hgen (numK sd op a.t a.c b.vi) ?_ (by unfold cmpK; simp [a15, nb])
      have e_a15 : (a.op == 15) = true := by simp [a15]
      rw [nb] at HB
      clear hgen
      clear a15
      clear nb
      clear HNt HTn
      unfold exV at *
      unfold exC at hW0
      unfold Gives
      go_enter Tryz.func131, Tryz.ntmps131
      go_upto_region 1 with fail
      rw [← hW0]
      clear hW0
      have HGc : Hid (Grew W0 W0) := Lib.hid (Grew.refl W0)
      go_wp2_with (first | (go_at_call 139; (with_reducible refine (HA.out _).grows.mono ?_); rintro en wn ⟨rfl, hgn⟩; have HGc := Lib.hid (HGc.out.trans hgn); obtain ⟨x0, m0, m1, m2, m3, m4, m5, m6, m7, m8⟩ := blok9 (HX0.out.grew HGc.out); obtain ⟨y0, n0, n1, n2, n3, n4, n5, n6, n7, n8⟩ := blok9 (HY0.out.grew HGc.out); clear hgn) | (go_at_call 139; (with_reducible refine (HB.out _).grows.mono ?_); rintro en wn ⟨rfl, hgn⟩; have HGc := Lib.hid (HGc.out.trans hgn); obtain ⟨x0, m0, m1, m2, m3, m4, m5, m6, m7, m8⟩ := blok9 (HX0.out.grew HGc.out); obtain ⟨y0, n0, n1, n2, n3, n4, n5, n6, n7, n8⟩ := blok9 (HY0.out.grew HGc.out); clear hgn) | (go_at_call 140; (with_reducible refine (HNa.out _ (HG0.out.trans HGc.out)).grows.mono ?_); rintro en wn ⟨rfl, hgn⟩; have HGc := Lib.hid (HGc.out.trans hgn); obtain ⟨x0, m0, m1, m2, m3, m4, m5, m6, m7, m8⟩ := blok9 (HX0.out.grew HGc.out); obtain ⟨y0, n0, n1, n2, n3, n4, n5, n6, n7, n8⟩ := blok9 (HY0.out.grew HGc.out); clear hgn) | (go_at_call 88; (with_reducible refine (HSm.out _ (HG0.out.trans HGc.out)).grows.mono ?_); rintro en wn ⟨rfl, hgn⟩; have HGc := Lib.hid (HGc.out.trans hgn); obtain ⟨x0, m0, m1, m2, m3, m4, m5, m6, m7, m8⟩ := blok9 (HX0.out.grew HGc.out); obtain ⟨y0, n0, n1, n2, n3, n4, n5, n6, n7, n8⟩ := blok9 (HY0.out.grew HGc.out); clear hgn))
      go_ret
      exact ⟨rfl, HG0.out.trans HGc.out⟩
    · replace nb : isNum b = false := by simpa using nb
      by_cases o1 : op = 1
      · by_cases b15 : b.op = 15
        · have h0 : True := trivial
          refine hgen (sameK sd a.t a.c b.t b.c) ?_ (by unfold cmpK; simp [a15, nb, na, o1, b15])
          have e_a15 : (a.op == 15) = true := by simp [a15]
          have e_o1 : (op == 1) = true := by simp [o1]
          have e_b15 : (b.op == 15) = true := by simp [b15]
          rw [na] at HA
          rw [nb] at HB
          clear hgen
          clear a15
          clear nb
          clear na
          clear o1
          clear b15
          clear HNt HTn
          unfold exV at *
          unfold exC at hW0
          unfold Gives
          go_enter Tryz.func131, Tryz.ntmps131
          go_upto_region 1 with fail
          rw [← hW0]
          clear hW0
          have HGc : Hid (Grew W0 W0) := Lib.hid (Grew.refl W0)
          go_wp2_with (first | (go_at_call 139; (with_reducible refine (HA.out _).grows.mono ?_); rintro en wn ⟨rfl, hgn⟩; have HGc := Lib.hid (HGc.out.trans hgn); obtain ⟨x0, m0, m1, m2, m3, m4, m5, m6, m7, m8⟩ := blok9 (HX0.out.grew HGc.out); obtain ⟨y0, n0, n1, n2, n3, n4, n5, n6, n7, n8⟩ := blok9 (HY0.out.grew HGc.out); clear hgn) | (go_at_call 139; (with_reducible refine (HB.out _).grows.mono ?_); rintro en wn ⟨rfl, hgn⟩; have HGc := Lib.hid (HGc.out.trans hgn); obtain ⟨x0, m0, m1, m2, m3, m4, m5, m6, m7, m8⟩ := blok9 (HX0.out.grew HGc.out); obtain ⟨y0, n0, n1, n2, n3, n4, n5, n6, n7, n8⟩ := blok9 (HY0.out.grew HGc.out); clear hgn) | (go_at_call 140; (with_reducible refine (HNa.out _ (HG0.out.trans HGc.out)).grows.mono ?_); rintro en wn ⟨rfl, hgn⟩; have HGc := Lib.hid (HGc.out.trans hgn); obtain ⟨x0, m0, m1, m2, m3, m4, m5, m6, m7, m8⟩ := blok9 (HX0.out.grew HGc.out); obtain ⟨y0, n0, n1, n2, n3, n4, n5, n6, n7, n8⟩ := blok9 (HY0.out.grew HGc.out); clear hgn) | (go_at_call 88; (with_reducible refine (HSm.out _ (HG0.out.trans HGc.out)).grows.mono ?_); rintro en wn ⟨rfl, hgn⟩; have HGc := Lib.hid (HGc.out.trans hgn); obtain ⟨x0, m0, m1, m2, m3, m4, m5, m6, m7, m8⟩ := blok9 (HX0.out.grew HGc.out); obtain ⟨y0, n0, n1, n2, n3, n4, n5, n6, n7, n8⟩ := blok9 (HY0.out.grew HGc.out); clear hgn))
          go_ret
          exact ⟨rfl, HG0.out.trans HGc.out⟩
        · have h0 : True := trivial
          refine hgen (halfB) ?_ (by unfold cmpK; simp [a15, nb, na, o1, b15])
          have e_a15 : (a.op == 15) = true := by simp [a15]
          have e_o1 : (op == 1) = true := by simp [o1]
          have e_b15 : (b.op == 15) = false := by simp [b15]
          rw [na] at HA
          rw [nb] at HB
          clear hgen
          clear a15
          clear nb
          clear na
          clear o1
          clear b15
          clear HNt HTn
          unfold exV at *
          unfold exC at hW0
          unfold Gives
          go_enter Tryz.func131, Tryz.ntmps131
          go_upto_region 1 with fail
          rw [← hW0]
          clear hW0
          have HGc : Hid (Grew W0 W0) := Lib.hid (Grew.refl W0)
          go_wp2_with (first | (go_at_call 139; (with_reducible refine (HA.out _).grows.mono ?_); rintro en wn ⟨rfl, hgn⟩; have HGc := Lib.hid (HGc.out.trans hgn); obtain ⟨x0, m0, m1, m2, m3, m4, m5, m6, m7, m8⟩ := blok9 (HX0.out.grew HGc.out); obtain ⟨y0, n0, n1, n2, n3, n4, n5, n6, n7, n8⟩ := blok9 (HY0.out.grew HGc.out); clear hgn) | (go_at_call 139; (with_reducible refine (HB.out _).grows.mono ?_); rintro en wn ⟨rfl, hgn⟩; have HGc := Lib.hid (HGc.out.trans hgn); obtain ⟨x0, m0, m1, m2, m3, m4, m5, m6, m7, m8⟩ := blok9 (HX0.out.grew HGc.out); obtain ⟨y0, n0, n1, n2, n3, n4, n5, n6, n7, n8⟩ := blok9 (HY0.out.grew HGc.out); clear hgn) | (go_at_call 140; (with_reducible refine (HNa.out _ (HG0.out.trans HGc.out)).grows.mono ?_); rintro en wn ⟨rfl, hgn⟩; have HGc := Lib.hid (HGc.out.trans hgn); obtain ⟨x0, m0, m1, m2, m3, m4, m5, m6, m7, m8⟩ := blok9 (HX0.out.grew HGc.out); obtain ⟨y0, n0, n1, n2, n3, n4, n5, n6, n7, n8⟩ := blok9 (HY0.out.grew HGc.out); clear hgn) | (go_at_call 88; (with_reducible refine (HSm.out _ (HG0.out.trans HGc.out)).grows.mono ?_); rintro en wn ⟨rfl, hgn⟩; have HGc := Lib.hid (HGc.out.trans hgn); obtain ⟨x0, m0, m1, m2, m3, m4, m5, m6, m7, m8⟩ := blok9 (HX0.out.grew HGc.out); obtain ⟨y0, n0, n1, n2, n3, n4, n5, n6, n7, n8⟩ := blok9 (HY0.out.grew HGc.out); clear hgn))
          go_ret
          exact ⟨rfl, HG0.out.trans HGc.out⟩
      · have h0 : True := trivial
        refine hgen (halfB) ?_ (by unfold cmpK; simp [a15, nb, na, o1])
        have e_a15 : (a.op == 15) = true := by simp [a15]
        have e_o1 : (op == 1) = false := by simp [o1]
        rw [na] at HA
        rw [nb] at HB
        clear hgen
        clear a15
        clear nb
        clear na
        clear o1
        clear HNt HTn
        unfold exV at *
        unfold exC at hW0
        unfold Gives
        go_enter Tryz.func131, Tryz.ntmps131
        go_upto_region 1 with fail
        rw [← hW0]
        clear hW0
        have HGc : Hid (Grew W0 W0) := Lib.hid (Grew.refl W0)
        go_wp2_with (first | (go_at_call 139; (with_reducible refine (HA.out _).grows.mono ?_); rintro en wn ⟨rfl, hgn⟩; have HGc := Lib.hid (HGc.out.trans hgn); obtain ⟨x0, m0, m1, m2, m3, m4, m5, m6, m7, m8⟩ := blok9 (HX0.out.grew HGc.out); obtain ⟨y0, n0, n1, n2, n3, n4, n5, n6, n7, n8⟩ := blok9 (HY0.out.grew HGc.out); clear hgn) | (go_at_call 139; (with_reducible refine (HB.out _).grows.mono ?_); rintro en wn ⟨rfl, hgn⟩; have HGc := Lib.hid (HGc.out.trans hgn); obtain ⟨x0, m0, m1, m2, m3, m4, m5, m6, m7, m8⟩ := blok9 (HX0.out.grew HGc.out); obtain ⟨y0, n0, n1, n2, n3, n4, n5, n6, n7, n8⟩ := blok9 (HY0.out.grew HGc.out); clear hgn) | (go_at_call 140; (with_reducible refine (HNa.out _ (HG0.out.trans HGc.out)).grows.mono ?_); rintro en wn ⟨rfl, hgn⟩; have HGc := Lib.hid (HGc.out.trans hgn); obtain ⟨x0, m0, m1, m2, m3, m4, m5, m6, m7, m8⟩ := blok9 (HX0.out.grew HGc.out); obtain ⟨y0, n0, n1, n2, n3, n4, n5, n6, n7, n8⟩ := blok9 (HY0.out.grew HGc.out); clear hgn) | (go_at_call 88; (with_reducible refine (HSm.out _ (HG0.out.trans HGc.out)).grows.mono ?_); rintro en wn ⟨rfl, hgn⟩; have HGc := Lib.hid (HGc.out.trans hgn); obtain ⟨x0, m0, m1, m2, m3, m4, m5, m6, m7, m8⟩ := blok9 (HX0.out.grew HGc.out); obtain ⟨y0, n0, n1, n2, n3, n4, n5, n6, n7, n8⟩ := blok9 (HY0.out.grew HGc.out); clear hgn))
        go_ret
        exact ⟨rfl, HG0.out.trans HGc.out⟩
  · by_cases na : isNum a = true
    · by_cases b15 : b.op = 15
      · have h0 : True := trivial
        refine hgen (numK sd (turnK op) b.t b.c a.vi) ?_ (by unfold cmpK; simp [a15, na, b15])
        have e_a15 : (a.op == 15) = false := by simp [a15]
        have e_b15 : (b.op == 15) = true := by simp [b15]
        rw [na] at HA
        clear hgen
        clear a15
        clear na
        clear b15
        have hop : op = 1 ∨ op = 2 ∨ op = 3 ∨ op = 4 ∨ op = 5 ∨ op = 6 := by omega
        clear ho1 ho6
        rcases hop with rfl | rfl | rfl | rfl | rfl | rfl
        all_goals
          have HTk := HNt
          unfold exV at *
          unfold exC at hW0
          unfold Gives
          go_enter Tryz.func131, Tryz.ntmps131
          go_upto_region 1 with fail
          rw [← hW0]
          clear hW0
          have HGc : Hid (Grew W0 W0) := Lib.hid (Grew.refl W0)
          go_wp2_with (first | (go_at_call 139; (with_reducible refine (HA.out _).grows.mono ?_); rintro en wn ⟨rfl, hgn⟩; have HGc := Lib.hid (HGc.out.trans hgn); obtain ⟨x0, m0, m1, m2, m3, m4, m5, m6, m7, m8⟩ := blok9 (HX0.out.grew HGc.out); obtain ⟨y0, n0, n1, n2, n3, n4, n5, n6, n7, n8⟩ := blok9 (HY0.out.grew HGc.out); clear hgn) | (go_at_call 139; (with_reducible refine (HB.out _).grows.mono ?_); rintro en wn ⟨rfl, hgn⟩; have HGc := Lib.hid (HGc.out.trans hgn); obtain ⟨x0, m0, m1, m2, m3, m4, m5, m6, m7, m8⟩ := blok9 (HX0.out.grew HGc.out); obtain ⟨y0, n0, n1, n2, n3, n4, n5, n6, n7, n8⟩ := blok9 (HY0.out.grew HGc.out); clear hgn) | (go_at_call 140; (with_reducible refine (HNa.out _ (HG0.out.trans HGc.out)).grows.mono ?_); rintro en wn ⟨rfl, hgn⟩; have HGc := Lib.hid (HGc.out.trans hgn); obtain ⟨x0, m0, m1, m2, m3, m4, m5, m6, m7, m8⟩ := blok9 (HX0.out.grew HGc.out); obtain ⟨y0, n0, n1, n2, n3, n4, n5, n6, n7, n8⟩ := blok9 (HY0.out.grew HGc.out); clear hgn) | (go_at_call 88; (with_reducible refine (HSm.out _ (HG0.out.trans HGc.out)).grows.mono ?_); rintro en wn ⟨rfl, hgn⟩; have HGc := Lib.hid (HGc.out.trans hgn); obtain ⟨x0, m0, m1, m2, m3, m4, m5, m6, m7, m8⟩ := blok9 (HX0.out.grew HGc.out); obtain ⟨y0, n0, n1, n2, n3, n4, n5, n6, n7, n8⟩ := blok9 (HY0.out.grew HGc.out); clear hgn))
          obtain ⟨Wc, rfl⟩ : ∃ Wc : World, Wc = wn := ⟨_, rfl⟩
          clear x0 m0 m1 m2 m3 m4 m5 m6 m7 m8 y0 n0 n1 n2 n3 n4 n5 n6 n7 n8
          have hS0 : Grew Wc Wc.drew := (Grew.refl Wc).drew
          refine wp_region_S (fun W => Grew Wc W) (by kernel_rfl) ?_
          refine held_take 0 (v := ?_) rfl (by kernel_rfl) (by kernel_rfl) (by kernel_rfl) (fun _ _ _ h => h) (by rfl) ?_ hS0 ?_
          rotate_left
          · (intro W hW; obtain ⟨x0, m0, m1, m2, m3, m4, m5, m6, m7, m8⟩ := blok9 ((HX0.out.grew HGc.out).grew hW); obtain ⟨y0, n0, n1, n2, n3, n4, n5, n6, n7, n8⟩ := blok9 ((HY0.out.grew HGc.out).grew hW); obtain ⟨t0, t1, t2, t3, t4, t5, t6⟩ := HTn.out.grew ((HG0.out.trans HGc.out).trans hW); go_simp; with_reducible rfl)
          refine held_take 1 (v := ?_) rfl (by kernel_rfl) (by kernel_rfl) (by kernel_rfl) (fun _ _ _ h => h) (by rfl) ?_ hS0 ?_
          rotate_left
          · (intro W hW; obtain ⟨x0, m0, m1, m2, m3, m4, m5, m6, m7, m8⟩ := blok9 ((HX0.out.grew HGc.out).grew hW); obtain ⟨y0, n0, n1, n2, n3, n4, n5, n6, n7, n8⟩ := blok9 ((HY0.out.grew HGc.out).grew hW); obtain ⟨t0, t1, t2, t3, t4, t5, t6⟩ := HTn.out.grew ((HG0.out.trans HGc.out).trans hW); go_simp; with_reducible rfl)
          refine held_take 2 (v := ?_) rfl (by kernel_rfl) (by kernel_rfl) (by kernel_rfl) (fun _ _ _ h => h) (by rfl) ?_ hS0 ?_
          rotate_left
          · (intro W hW; obtain ⟨x0, m0, m1, m2, m3, m4, m5, m6, m7, m8⟩ := blok9 ((HX0.out.grew HGc.out).grew hW); obtain ⟨y0, n0, n1, n2, n3, n4, n5, n6, n7, n8⟩ := blok9 ((HY0.out.grew HGc.out).grew hW); obtain ⟨t0, t1, t2, t3, t4, t5, t6⟩ := HTn.out.grew ((HG0.out.trans HGc.out).trans hW); go_simp; with_reducible rfl)
          refine held_take 3 (v := ?_) rfl (by kernel_rfl) (by kernel_rfl) (by kernel_rfl) (fun _ _ _ h => h) (by rfl) ?_ hS0 ?_
          rotate_left
          · (intro W hW; obtain ⟨x0, m0, m1, m2, m3, m4, m5, m6, m7, m8⟩ := blok9 ((HX0.out.grew HGc.out).grew hW); obtain ⟨y0, n0, n1, n2, n3, n4, n5, n6, n7, n8⟩ := blok9 ((HY0.out.grew HGc.out).grew hW); obtain ⟨t0, t1, t2, t3, t4, t5, t6⟩ := HTn.out.grew ((HG0.out.trans HGc.out).trans hW); go_simp; with_reducible rfl)
          refine held_take 4 (v := ?_) rfl (by kernel_rfl) (by kernel_rfl) (by kernel_rfl) (fun _ _ _ h => h) (by rfl) ?_ hS0 ?_
          rotate_left
          · (intro W hW; obtain ⟨x0, m0, m1, m2, m3, m4, m5, m6, m7, m8⟩ := blok9 ((HX0.out.grew HGc.out).grew hW); obtain ⟨y0, n0, n1, n2, n3, n4, n5, n6, n7, n8⟩ := blok9 ((HY0.out.grew HGc.out).grew hW); obtain ⟨t0, t1, t2, t3, t4, t5, t6⟩ := HTn.out.grew ((HG0.out.trans HGc.out).trans hW); go_simp; with_reducible rfl)
          refine held_take 5 (v := ?_) rfl (by kernel_rfl) (by kernel_rfl) (by kernel_rfl) (fun _ _ _ h => h) (by rfl) ?_ hS0 ?_
          rotate_left
          · (intro W hW; obtain ⟨x0, m0, m1, m2, m3, m4, m5, m6, m7, m8⟩ := blok9 ((HX0.out.grew HGc.out).grew hW); obtain ⟨y0, n0, n1, n2, n3, n4, n5, n6, n7, n8⟩ := blok9 ((HY0.out.grew HGc.out).grew hW); obtain ⟨t0, t1, t2, t3, t4, t5, t6⟩ := HTn.out.grew ((HG0.out.trans HGc.out).trans hW); go_simp; with_reducible rfl)
          refine held_take 6 (v := ?_) rfl (by kernel_rfl) (by kernel_rfl) (by kernel_rfl) (fun _ _ _ h => h) (by rfl) ?_ hS0 ?_
          rotate_left
          · (intro W hW; obtain ⟨x0, m0, m1, m2, m3, m4, m5, m6, m7, m8⟩ := blok9 ((HX0.out.grew HGc.out).grew hW); obtain ⟨y0, n0, n1, n2, n3, n4, n5, n6, n7, n8⟩ := blok9 ((HY0.out.grew HGc.out).grew hW); obtain ⟨t0, t1, t2, t3, t4, t5, t6⟩ := HTn.out.grew ((HG0.out.trans HGc.out).trans hW); go_simp; with_reducible rfl)
          refine held_take 7 (v := ?_) rfl (by kernel_rfl) (by kernel_rfl) (by kernel_rfl) (fun _ _ _ h => h) (by rfl) ?_ hS0 ?_
          rotate_left
          · (intro W hW; obtain ⟨x0, m0, m1, m2, m3, m4, m5, m6, m7, m8⟩ := blok9 ((HX0.out.grew HGc.out).grew hW); obtain ⟨y0, n0, n1, n2, n3, n4, n5, n6, n7, n8⟩ := blok9 ((HY0.out.grew HGc.out).grew hW); obtain ⟨t0, t1, t2, t3, t4, t5, t6⟩ := HTn.out.grew ((HG0.out.trans HGc.out).trans hW); go_simp; with_reducible rfl)
          refine held_norm (a' := ?_) ?_ ?_
          rotate_left
          · (go_simp; with_reducible rfl)
          refine held_call 8 (by kernel_rfl) rfl (by rfl) (fun K hK => ?_)
          go_simp
          go_wp2_with ((go_at_call 140; (refine (HTk.out _ ((HG0.out.trans HGc.out).trans hS0)).grows.mono ?_); rintro en wn ⟨rfl, hgn⟩; have hSn := hS0.trans hgn))
          refine hK.out _ _ hSn ?_
          clear hK K
          refine held_take 9 (v := ?_) rfl (by kernel_rfl) (by kernel_rfl) (by kernel_rfl) (fun _ _ _ h => h) (by rfl) ?_ hSn ?_
          rotate_left
          · (intro W hW; go_simp; with_reducible rfl)
          refine held_norm (a' := ?_) ?_ ?_
          rotate_left
          · (go_simp; with_reducible rfl)
          refine held_done (by kernel_rfl) ?_
          have HGf := Lib.hid ((HG0.out.trans HGc.out).trans hSn)
          clear hSn hgn hS0
          go_wp2
          go_ret
          exact ⟨rfl, HGf.out⟩
      · by_cases o1 : op = 1
        · have h0 : True := trivial
          refine hgen (halfB) ?_ (by unfold cmpK; simp [a15, na, b15, o1])
          have e_a15 : (a.op == 15) = false := by simp [a15]
          have e_b15 : (b.op == 15) = false := by simp [b15]
          have e_o1 : (op == 1) = true := by simp [o1]
          rw [na] at HA
          clear hgen
          clear a15
          clear na
          clear b15
          clear o1
          clear HNt HTn
          unfold exV at *
          unfold exC at hW0
          unfold Gives
          go_enter Tryz.func131, Tryz.ntmps131
          go_upto_region 1 with fail
          rw [← hW0]
          clear hW0
          have HGc : Hid (Grew W0 W0) := Lib.hid (Grew.refl W0)
          go_wp2_with (first | (go_at_call 139; (with_reducible refine (HA.out _).grows.mono ?_); rintro en wn ⟨rfl, hgn⟩; have HGc := Lib.hid (HGc.out.trans hgn); obtain ⟨x0, m0, m1, m2, m3, m4, m5, m6, m7, m8⟩ := blok9 (HX0.out.grew HGc.out); obtain ⟨y0, n0, n1, n2, n3, n4, n5, n6, n7, n8⟩ := blok9 (HY0.out.grew HGc.out); clear hgn) | (go_at_call 139; (with_reducible refine (HB.out _).grows.mono ?_); rintro en wn ⟨rfl, hgn⟩; have HGc := Lib.hid (HGc.out.trans hgn); obtain ⟨x0, m0, m1, m2, m3, m4, m5, m6, m7, m8⟩ := blok9 (HX0.out.grew HGc.out); obtain ⟨y0, n0, n1, n2, n3, n4, n5, n6, n7, n8⟩ := blok9 (HY0.out.grew HGc.out); clear hgn) | (go_at_call 140; (with_reducible refine (HNa.out _ (HG0.out.trans HGc.out)).grows.mono ?_); rintro en wn ⟨rfl, hgn⟩; have HGc := Lib.hid (HGc.out.trans hgn); obtain ⟨x0, m0, m1, m2, m3, m4, m5, m6, m7, m8⟩ := blok9 (HX0.out.grew HGc.out); obtain ⟨y0, n0, n1, n2, n3, n4, n5, n6, n7, n8⟩ := blok9 (HY0.out.grew HGc.out); clear hgn) | (go_at_call 88; (with_reducible refine (HSm.out _ (HG0.out.trans HGc.out)).grows.mono ?_); rintro en wn ⟨rfl, hgn⟩; have HGc := Lib.hid (HGc.out.trans hgn); obtain ⟨x0, m0, m1, m2, m3, m4, m5, m6, m7, m8⟩ := blok9 (HX0.out.grew HGc.out); obtain ⟨y0, n0, n1, n2, n3, n4, n5, n6, n7, n8⟩ := blok9 (HY0.out.grew HGc.out); clear hgn))
          go_ret
          exact ⟨rfl, HG0.out.trans HGc.out⟩
        · have h0 : True := trivial
          refine hgen (halfB) ?_ (by unfold cmpK; simp [a15, na, b15, o1])
          have e_a15 : (a.op == 15) = false := by simp [a15]
          have e_b15 : (b.op == 15) = false := by simp [b15]
          have e_o1 : (op == 1) = false := by simp [o1]
          rw [na] at HA
          clear hgen
          clear a15
          clear na
          clear b15
          clear o1
          clear HNt HTn
          unfold exV at *
          unfold exC at hW0
          unfold Gives
          go_enter Tryz.func131, Tryz.ntmps131
          go_upto_region 1 with fail
          rw [← hW0]
          clear hW0
          have HGc : Hid (Grew W0 W0) := Lib.hid (Grew.refl W0)
          go_wp2_with (first | (go_at_call 139; (with_reducible refine (HA.out _).grows.mono ?_); rintro en wn ⟨rfl, hgn⟩; have HGc := Lib.hid (HGc.out.trans hgn); obtain ⟨x0, m0, m1, m2, m3, m4, m5, m6, m7, m8⟩ := blok9 (HX0.out.grew HGc.out); obtain ⟨y0, n0, n1, n2, n3, n4, n5, n6, n7, n8⟩ := blok9 (HY0.out.grew HGc.out); clear hgn) | (go_at_call 139; (with_reducible refine (HB.out _).grows.mono ?_); rintro en wn ⟨rfl, hgn⟩; have HGc := Lib.hid (HGc.out.trans hgn); obtain ⟨x0, m0, m1, m2, m3, m4, m5, m6, m7, m8⟩ := blok9 (HX0.out.grew HGc.out); obtain ⟨y0, n0, n1, n2, n3, n4, n5, n6, n7, n8⟩ := blok9 (HY0.out.grew HGc.out); clear hgn) | (go_at_call 140; (with_reducible refine (HNa.out _ (HG0.out.trans HGc.out)).grows.mono ?_); rintro en wn ⟨rfl, hgn⟩; have HGc := Lib.hid (HGc.out.trans hgn); obtain ⟨x0, m0, m1, m2, m3, m4, m5, m6, m7, m8⟩ := blok9 (HX0.out.grew HGc.out); obtain ⟨y0, n0, n1, n2, n3, n4, n5, n6, n7, n8⟩ := blok9 (HY0.out.grew HGc.out); clear hgn) | (go_at_call 88; (with_reducible refine (HSm.out _ (HG0.out.trans HGc.out)).grows.mono ?_); rintro en wn ⟨rfl, hgn⟩; have HGc := Lib.hid (HGc.out.trans hgn); obtain ⟨x0, m0, m1, m2, m3, m4, m5, m6, m7, m8⟩ := blok9 (HX0.out.grew HGc.out); obtain ⟨y0, n0, n1, n2, n3, n4, n5, n6, n7, n8⟩ := blok9 (HY0.out.grew HGc.out); clear hgn))
          go_ret
          exact ⟨rfl, HG0.out.trans HGc.out⟩
    · replace na : isNum a = false := by simpa using na
      by_cases o1 : op = 1
      · have h0 : True := trivial
        refine hgen (halfB) ?_ (by unfold cmpK; simp [a15, na, o1])
        have e_a15 : (a.op == 15) = false := by simp [a15]
        have e_o1 : (op == 1) = true := by simp [o1]
        rw [na] at HA
        clear hgen
        clear a15
        clear na
        clear o1
        clear HNt HTn
        unfold exV at *
        unfold exC at hW0
        unfold Gives
        go_enter Tryz.func131, Tryz.ntmps131
        go_upto_region 1 with fail
        rw [← hW0]
        clear hW0
        have HGc : Hid (Grew W0 W0) := Lib.hid (Grew.refl W0)
        go_wp2_with (first | (go_at_call 139; (with_reducible refine (HA.out _).grows.mono ?_); rintro en wn ⟨rfl, hgn⟩; have HGc := Lib.hid (HGc.out.trans hgn); obtain ⟨x0, m0, m1, m2, m3, m4, m5, m6, m7, m8⟩ := blok9 (HX0.out.grew HGc.out); obtain ⟨y0, n0, n1, n2, n3, n4, n5, n6, n7, n8⟩ := blok9 (HY0.out.grew HGc.out); clear hgn) | (go_at_call 139; (with_reducible refine (HB.out _).grows.mono ?_); rintro en wn ⟨rfl, hgn⟩; have HGc := Lib.hid (HGc.out.trans hgn); obtain ⟨x0, m0, m1, m2, m3, m4, m5, m6, m7, m8⟩ := blok9 (HX0.out.grew HGc.out); obtain ⟨y0, n0, n1, n2, n3, n4, n5, n6, n7, n8⟩ := blok9 (HY0.out.grew HGc.out); clear hgn) | (go_at_call 140; (with_reducible refine (HNa.out _ (HG0.out.trans HGc.out)).grows.mono ?_); rintro en wn ⟨rfl, hgn⟩; have HGc := Lib.hid (HGc.out.trans hgn); obtain ⟨x0, m0, m1, m2, m3, m4, m5, m6, m7, m8⟩ := blok9 (HX0.out.grew HGc.out); obtain ⟨y0, n0, n1, n2, n3, n4, n5, n6, n7, n8⟩ := blok9 (HY0.out.grew HGc.out); clear hgn) | (go_at_call 88; (with_reducible refine (HSm.out _ (HG0.out.trans HGc.out)).grows.mono ?_); rintro en wn ⟨rfl, hgn⟩; have HGc := Lib.hid (HGc.out.trans hgn); obtain ⟨x0, m0, m1, m2, m3, m4, m5, m6, m7, m8⟩ := blok9 (HX0.out.grew HGc.out); obtain ⟨y0, n0, n1, n2, n3, n4, n5, n6, n7, n8⟩ := blok9 (HY0.out.grew HGc.out); clear hgn))
        go_ret
        exact ⟨rfl, HG0.out.trans HGc.out⟩
      · have h0 : True := trivial
        refine hgen (halfB) ?_ (by unfold cmpK; simp [a15, na, o1])
        have e_a15 : (a.op == 15) = false := by simp [a15]
        have e_o1 : (op == 1) = false := by simp [o1]
        rw [na] at HA
        clear hgen
        clear a15
        clear na
        clear o1
        clear HNt HTn
        unfold exV at *
        unfold exC at hW0
        unfold Gives
        go_enter Tryz.func131, Tryz.ntmps131
        go_upto_region 1 with fail
        rw [← hW0]
        clear hW0
        have HGc : Hid (Grew W0 W0) := Lib.hid (Grew.refl W0)
        go_wp2_with (first | (go_at_call 139; (with_reducible refine (HA.out _).grows.mono ?_); rintro en wn ⟨rfl, hgn⟩; have HGc := Lib.hid (HGc.out.trans hgn); obtain ⟨x0, m0, m1, m2, m3, m4, m5, m6, m7, m8⟩ := blok9 (HX0.out.grew HGc.out); obtain ⟨y0, n0, n1, n2, n3, n4, n5, n6, n7, n8⟩ := blok9 (HY0.out.grew HGc.out); clear hgn) | (go_at_call 139; (with_reducible refine (HB.out _).grows.mono ?_); rintro en wn ⟨rfl, hgn⟩; have HGc := Lib.hid (HGc.out.trans hgn); obtain ⟨x0, m0, m1, m2, m3, m4, m5, m6, m7, m8⟩ := blok9 (HX0.out.grew HGc.out); obtain ⟨y0, n0, n1, n2, n3, n4, n5, n6, n7, n8⟩ := blok9 (HY0.out.grew HGc.out); clear hgn) | (go_at_call 140; (with_reducible refine (HNa.out _ (HG0.out.trans HGc.out)).grows.mono ?_); rintro en wn ⟨rfl, hgn⟩; have HGc := Lib.hid (HGc.out.trans hgn); obtain ⟨x0, m0, m1, m2, m3, m4, m5, m6, m7, m8⟩ := blok9 (HX0.out.grew HGc.out); obtain ⟨y0, n0, n1, n2, n3, n4, n5, n6, n7, n8⟩ := blok9 (HY0.out.grew HGc.out); clear hgn) | (go_at_call 88; (with_reducible refine (HSm.out _ (HG0.out.trans HGc.out)).grows.mono ?_); rintro en wn ⟨rfl, hgn⟩; have HGc := Lib.hid (HGc.out.trans hgn); obtain ⟨x0, m0, m1, m2, m3, m4, m5, m6, m7, m8⟩ := blok9 (HX0.out.grew HGc.out); obtain ⟨y0, n0, n1, n2, n3, n4, n5, n6, n7, n8⟩ := blok9 (HY0.out.grew HGc.out); clear hgn))
        go_ret
        exact ⟨rfl, HG0.out.trans HGc.out⟩
end Go.Proofs.YtbglmcebkpkccaaGreatDoor

/- Layer 29: the share of rows for which an expression may be true, by the program. Condition: what is held, and an expression, in memory that is there; the turned signs as they are laid. -/
namespace Go.Proofs.YtbglmcebkpkccaaGreatDoor
open Go.RowKit
attribute [local go_sem] more_cell more_frozen more_more more_setCell more_of_drew more_of_drewN lt_more le_more past_cell past_cell2 past_frozen past_frozen2 past_setCell past_setCell2 mid_cell mid_frozen mid_setCell
attribute [local go_sem] fldC0 fldC1 fldS0
attribute [local go_sem ↓] Go.wp_at_zero Go.wp_at_succ

set_option maxHeartbeats 4000000 in
set_option maxRecDepth 100000 in
theorem kone_any (sd : List Sst) (hs : OkSd sd) (op : Int) (a : Ex) (Aa : Option Addr) (ka : Nat) (A : Option Addr) (k : Nat) (w : World) (ra : SstsR (PRow w) A sd)
    (hsh : ∀ W, Grew w W → Gives Tryz.prog 77 #[.slice A sd.length k, exV a Aa ka] W (.float .f64 (shareK sd a))) :
    Gives Tryz.prog 106 #[.slice A sd.length k, .int .i64 op, exV a Aa ka] w (.float .f64 (oneK sd op a)) := by
  have H1 : Hid (∀ W, Grew w W → Calls Tryz.prog 112 #[.slice A sd.length k, .int .i64 a.t, .int .i64 a.c] W (KolF W (colK sd a.t a.c))) := Lib.hid fun W hW => kcol_any sd hs a.t a.c A k W (ra.grew hW)
  have H2 : Hid (∀ W, Grew w W → Gives Tryz.prog 78 #[.slice A sd.length k, .int .i64 a.t] W (.int .i64 (rowsK sd a.t))) := Lib.hid fun W hW => krows_any sd a.t A k W (ra.grew hW)
  have hok := colK_ok hs a.t a.c
  have HF : Hid (∀ W, Gives Tryz.prog 111 #[.int .i64 (colK sd a.t a.c).n, .int .i64 (rowsK sd a.t)] W (.float .f64 (nullK sd a))) := Lib.hid fun W => fof_any _ _ ⟨by omega, by omega⟩ ⟨by omega, by omega⟩ W
  have hq : nullK sd a ≤ 4607182418800017408 := ofB_le _ _
  have hsl := shareK_le sd a
  have HNs : Hid (∀ W, Calls Tryz.prog 129 #[.float .f64 (shareK sd a)] W fun e w' => e = .returned (.float .f64 (notB (shareK sd a))) ∧ w' = W) := Lib.hid fun W => fnot_any _ (by omega) W
  have HNf : Hid (∀ W, Calls Tryz.prog 129 #[.float .f64 (nullK sd a)] W fun e w' => e = .returned (.float .f64 (notB (nullK sd a))) ∧ w' = W) := Lib.hid fun W => fnot_any _ (by omega) W
  have HSh := Lib.hid hsh
  obtain ⟨W0, hW0⟩ : ∃ W0, W0 = w.alloc (.cells (exC a Aa ka).toArray 27) := ⟨_, rfl⟩
  have HG0 : Hid (Grew w W0) := Lib.hid (by rw [hW0]; exact (Grew.refl w).alloc _)
  have HX0 : Hid (Blok W0 w.heap.size 27 (exC a Aa ka).toArray) := Lib.hid (by rw [hW0]; exact Blok.new _ _ _ _ rfl)
  obtain ⟨x0, m0, m1, m2, m3, m4, m5, m6, m7, m8⟩ := blok9 HX0.out
  have hone : ∀ v, oneK sd op a = v → Gives Tryz.prog 106 #[.slice A sd.length k, .int .i64 op, exV a Aa ka] w (.float .f64 v) → Gives Tryz.prog 106 #[.slice A sd.length k, .int .i64 op, exV a Aa ka] w (.float .f64 (oneK sd op a)) := fun v e h => e ▸ h
  have e1 : op = 12 → oneK sd op a = notB (shareK sd a) := fun h => by unfold oneK; rw [if_pos h]
  have e2 : ¬ op = 12 → ¬ a.op = 15 → oneK sd op a = halfB := fun h h2 => by unfold oneK; rw [if_neg h, if_neg h2]
  have e3 : op = 13 → a.op = 15 → oneK sd op a = nullK sd a := fun h h2 => by unfold oneK; rw [if_neg (by omega), if_pos h2, if_pos h]
  have e4 : op = 14 → a.op = 15 → oneK sd op a = notB (nullK sd a) := fun h h2 => by unfold oneK; rw [if_neg (by omega), if_pos h2, if_neg (by omega), if_pos h]
  have e5 : ¬ op = 12 → ¬ op = 13 → ¬ op = 14 → a.op = 15 → oneK sd op a = halfB := fun h h2 h3 h4 => by unfold oneK; rw [if_neg h, if_pos h4, if_neg h2, if_neg h3]
  clear hsh ra hs hok
  by_cases o12 : op = 12
  · refine hone _ (e1 o12) ?_
    clear hone e1 e2 e3 e4 e5 HNf H1 H2 HF
    subst o12
    generalize shareK sd a = q at *
    generalize notB q = nq at *
    unfold exV at *
    unfold exC at hW0
    unfold Gives
    go_enter Tryz.func106, Tryz.ntmps106
    go_upto_region 1 with fail
    rw [← hW0]
    clear hW0
    go_wp2_with (first | (go_at_call 77; (with_reducible refine (HSh.out _ HG0.out).grows.mono ?_); rintro en wn ⟨rfl, hgn⟩; have HGn := Lib.hid (HG0.out.trans hgn); clear hgn) | (go_at_call 129; (with_reducible refine (HNs.out _).mono ?_); rintro en wn ⟨rfl, hwn⟩; subst hwn))
    go_ret
    exact ⟨rfl, HGn.out⟩
  by_cases c15 : a.op = 15
  rotate_left
  · refine hone _ (e2 o12 c15) ?_
    have t1 : (op == 12) = false := by rw [beq_eq_false_iff_ne]; exact o12
    have t2 : (a.op != 15) = true := by rw [bne_iff_ne]; exact c15
    clear hone e1 e2 e3 e4 e5 HNf H1 H2 HF HNs HSh o12 c15
    unfold halfB
    unfold exV at *
    unfold exC at hW0
    unfold Gives
    go_enter Tryz.func106, Tryz.ntmps106
    go_upto_region 1 with fail
    rw [← hW0]
    clear hW0
    go_wp2
    go_ret
    exact ⟨rfl, HG0.out⟩
  have t2 : (a.op != 15) = false := by rw [bne_eq_false_iff_eq]; exact c15
  have hcase : ∃ v, oneK sd op a = v ∧ ((op = 13 ∧ v = nullK sd a) ∨ (op = 14 ∧ v = notB (nullK sd a)) ∨ ((op == 12) = false ∧ (op == 13) = false ∧ (op == 14) = false ∧ v = halfB)) := by
    by_cases h3 : op = 13
    · exact ⟨_, e3 h3 c15, Or.inl ⟨h3, rfl⟩⟩
    · by_cases h4 : op = 14
      · exact ⟨_, e4 h4 c15, Or.inr (Or.inl ⟨h4, rfl⟩)⟩
      · exact ⟨_, e5 o12 h3 h4 c15, Or.inr (Or.inr ⟨by rw [beq_eq_false_iff_ne]; exact o12, by rw [beq_eq_false_iff_ne]; exact h3, by rw [beq_eq_false_iff_ne]; exact h4, rfl⟩)⟩
  obtain ⟨v, hv, hcase⟩ := hcase
  refine hone v hv ?_
  clear hone e1 e2 e3 e4 e5 HNs HSh o12 c15 hv
  unfold halfB at hcase
  obtain ⟨r, hr⟩ : ∃ r, rowsK sd a.t = r := ⟨_, rfl⟩
  rw [hr] at HF H2
  clear hr
  generalize colK sd a.t a.c = x at *
  generalize nullK sd a = q at *
  generalize notB q = nq at *
  unfold exV at *
  unfold exC at hW0
  unfold Gives
  rcases hcase with ⟨rfl, rfl⟩ | ⟨rfl, rfl⟩ | ⟨t3, t4, t5, rfl⟩
  all_goals
    go_enter Tryz.func106, Tryz.ntmps106
    go_upto_region 1 with fail
    rw [← hW0]
    clear hW0
    go_wp2_with fail
    clear x0 m0 m1 m2 m3 m4 m5 m6 m7 m8
    have hS0 : Grew W0 W0.drew := (Grew.refl W0).drew
    refine wp_region_S (fun W => Grew W0 W) (by kernel_rfl) ?_
    refine held_take 0 (v := ?_) rfl (by kernel_rfl) (by kernel_rfl) (by kernel_rfl) (fun _ _ _ h => h) (by rfl) ?_ hS0 ?_
    rotate_left
    · (intro W hW; obtain ⟨x0, m0, m1, m2, m3, m4, m5, m6, m7, m8⟩ := blok9 (HX0.out.grew hW); go_simp; with_reducible rfl)
    refine held_take 1 (v := ?_) rfl (by kernel_rfl) (by kernel_rfl) (by kernel_rfl) (fun _ _ _ h => h) (by rfl) ?_ hS0 ?_
    rotate_left
    · (intro W hW; obtain ⟨x0, m0, m1, m2, m3, m4, m5, m6, m7, m8⟩ := blok9 (HX0.out.grew hW); go_simp; with_reducible rfl)
    refine held_take 2 (v := ?_) rfl (by kernel_rfl) (by kernel_rfl) (by kernel_rfl) (fun _ _ _ h => h) (by rfl) ?_ hS0 ?_
    rotate_left
    · (intro W hW; obtain ⟨x0, m0, m1, m2, m3, m4, m5, m6, m7, m8⟩ := blok9 (HX0.out.grew hW); go_simp; with_reducible rfl)
    refine held_take 3 (v := ?_) rfl (by kernel_rfl) (by kernel_rfl) (by kernel_rfl) (fun _ _ _ h => h) (by rfl) ?_ hS0 ?_
    rotate_left
    · (intro W hW; obtain ⟨x0, m0, m1, m2, m3, m4, m5, m6, m7, m8⟩ := blok9 (HX0.out.grew hW); go_simp; with_reducible rfl)
    refine held_take 4 (v := ?_) rfl (by kernel_rfl) (by kernel_rfl) (by kernel_rfl) (fun _ _ _ h => h) (by rfl) ?_ hS0 ?_
    rotate_left
    · (intro W hW; obtain ⟨x0, m0, m1, m2, m3, m4, m5, m6, m7, m8⟩ := blok9 (HX0.out.grew hW); go_simp; with_reducible rfl)
    refine held_take 7 (v := ?_) rfl (by kernel_rfl) (by kernel_rfl) (by kernel_rfl) (fun _ _ _ h => h) (by rfl) ?_ hS0 ?_
    rotate_left
    · (intro W hW; obtain ⟨x0, m0, m1, m2, m3, m4, m5, m6, m7, m8⟩ := blok9 (HX0.out.grew hW); go_simp; with_reducible rfl)
    refine held_take 8 (v := ?_) rfl (by kernel_rfl) (by kernel_rfl) (by kernel_rfl) (fun _ _ _ h => h) (by rfl) ?_ hS0 ?_
    rotate_left
    · (intro W hW; obtain ⟨x0, m0, m1, m2, m3, m4, m5, m6, m7, m8⟩ := blok9 (HX0.out.grew hW); go_simp; with_reducible rfl)
    refine held_take 9 (v := ?_) rfl (by kernel_rfl) (by kernel_rfl) (by kernel_rfl) (fun _ _ _ h => h) (by rfl) ?_ hS0 ?_
    rotate_left
    · (intro W hW; obtain ⟨x0, m0, m1, m2, m3, m4, m5, m6, m7, m8⟩ := blok9 (HX0.out.grew hW); go_simp; with_reducible rfl)
    refine held_norm (a' := ?_) ?_ ?_
    rotate_left
    · (go_simp; with_reducible rfl)
    refine held_call 5 (by kernel_rfl) rfl (by rfl) (fun K hK => ?_)
    go_simp
    go_wp2_with ((go_at_call 112; (with_reducible refine (H1.out _ (HG0.out.trans hS0)).mono ?_); rintro en wn ⟨B, j, rfl, hgn, _⟩; have hS1 := hS0.trans hgn))
    refine hK.out _ _ hS1 ?_
    clear hK K
    refine held_take 6 (v := ?_) rfl (by kernel_rfl) (by kernel_rfl) (by kernel_rfl) (fun _ _ _ h => h) (by rfl) ?_ hS1 ?_
    rotate_left
    · (intro W hW; go_simp; with_reducible rfl)
    refine held_norm (a' := ?_) ?_ ?_
    rotate_left
    · (go_simp; with_reducible rfl)
    refine held_call 10 (by kernel_rfl) rfl (by rfl) (fun K hK => ?_)
    go_simp
    go_wp2_with ((go_at_call 78; (with_reducible refine (H2.out _ (HG0.out.trans hS1)).grows.mono ?_); rintro en wn ⟨rfl, hgn2⟩; have hS2 := hS1.trans hgn2))
    refine hK.out _ _ hS2 ?_
    clear hK K
    refine held_call 11 (by kernel_rfl) rfl (by rfl) (fun K hK => ?_)
    go_simp
    go_wp2_with ((go_at_call 111; (with_reducible refine (HF.out _).grows.mono ?_); rintro en wn ⟨rfl, hgn3⟩; have hS3 := hS2.trans hgn3))
    refine hK.out _ _ hS3 ?_
    clear hK K
    refine held_take 12 (v := ?_) rfl (by kernel_rfl) (by kernel_rfl) (by kernel_rfl) (fun _ _ _ h => h) (by rfl) ?_ hS3 ?_
    rotate_left
    · (intro W hW; go_simp; with_reducible rfl)
    refine held_norm (a' := ?_) ?_ ?_
    rotate_left
    · (go_simp; with_reducible rfl)
    refine held_done (by kernel_rfl) ?_
    have HGf := Lib.hid (HG0.out.trans hS3)
    clear hS3 hS2 hS1 hS0 hgn3 hgn2 hgn
    go_wp2_with (go_at_call 129; (with_reducible refine (HNf.out _).mono ?_); rintro en wn ⟨rfl, hwn⟩; subst hwn)
    go_ret
    exact ⟨rfl, HGf.out⟩
set_option maxHeartbeats 4000000 in
set_option maxRecDepth 100000 in
theorem ktwo_any (sd : List Sst) (hs : OkSd sd) (op : Int) (a b : Ex) (Aa Ab : Option Addr) (ka kb : Nat) (A : Option Addr) (k : Nat) (w : World) (ra : SstsR (PRow w) A sd) (ht : TurnC w)
    (hsa : ∀ W, Grew w W → Gives Tryz.prog 77 #[.slice A sd.length k, exV a Aa ka] W (.float .f64 (shareK sd a)))
    (hsb : ∀ W, Grew w W → Gives Tryz.prog 77 #[.slice A sd.length k, exV b Ab kb] W (.float .f64 (shareK sd b))) :
    Gives Tryz.prog 107 #[.slice A sd.length k, .int .i64 op, exV a Aa ka, exV b Ab kb] w (.float .f64 (twoK sd op a b)) := by
  have ha := shareK_le sd a
  have hb := shareK_le sd b
  have HSa := Lib.hid hsa
  have HSb := Lib.hid hsb
  have HC : Hid (1 ≤ op ∧ op ≤ 6 → ∀ W, Grew w W → Gives Tryz.prog 131 #[.slice A sd.length k, .int .i64 op, exV a Aa ka, exV b Ab kb] W (.float .f64 (cmpK sd op a b))) := Lib.hid fun ho W hW => kcmp_any sd hs op ho a b Aa Ab ka kb A k W (ra.grew hW) (ht.grew hW)
  have HOr : Hid (∀ W, Calls Tryz.prog 130 #[.float .f64 (shareK sd a), .float .f64 (shareK sd b)] W fun e w' => e = .returned (.float .f64 (orB (shareK sd a) (shareK sd b))) ∧ w' = W) := Lib.hid fun W => fo_or_any _ _ (by omega) (by omega) W
  obtain ⟨W0, hW0⟩ : ∃ W0, W0 = (w.alloc (.cells (exC a Aa ka).toArray 27)).alloc (.cells (exC b Ab kb).toArray 27) := ⟨_, rfl⟩
  have HG0 : Hid (Grew w W0) := Lib.hid (by rw [hW0]; exact ((Grew.refl w).alloc _).alloc _)
  have HX0 : Hid (Blok W0 w.heap.size 27 (exC a Aa ka).toArray) := Lib.hid (by rw [hW0]; exact (Blok.new _ _ _ _ rfl).alloc _)
  have HY0 : Hid (Blok W0 (w.heap.size + 1) 27 (exC b Ab kb).toArray) := Lib.hid (by rw [hW0]; exact Blok.new _ _ _ _ (by simp))
  obtain ⟨x0, m0, m1, m2, m3, m4, m5, m6, m7, m8⟩ := blok9 HX0.out
  obtain ⟨y0, n0, n1, n2, n3, n4, n5, n6, n7, n8⟩ := blok9 HY0.out
  have htwo : ∀ v, twoK sd op a b = v → Gives Tryz.prog 107 #[.slice A sd.length k, .int .i64 op, exV a Aa ka, exV b Ab kb] w (.float .f64 v) → Gives Tryz.prog 107 #[.slice A sd.length k, .int .i64 op, exV a Aa ka, exV b Ab kb] w (.float .f64 (twoK sd op a b)) := fun v e h => e ▸ h
  have e1 : op = 10 → twoK sd op a b = andF [shareK sd a, shareK sd b] 4607182418800017408 := fun h => by unfold twoK; rw [if_pos h]
  have e2 : op = 11 → twoK sd op a b = orB (shareK sd a) (shareK sd b) := fun h => by unfold twoK; rw [if_neg (by omega), if_pos h]
  have e3 : 1 ≤ op ∧ op ≤ 6 → twoK sd op a b = cmpK sd op a b := fun h => by unfold twoK; rw [if_neg (by omega), if_neg (by omega), if_pos h]
  have e4 : ¬ op = 10 → ¬ op = 11 → ¬ (1 ≤ op ∧ op ≤ 6) → twoK sd op a b = halfB := fun h h2 h3 => by unfold twoK; rw [if_neg h, if_neg h2, if_neg h3]
  clear hsa hsb ra hs ht
  by_cases o10 : op = 10
  · refine htwo _ (e1 o10) ?_
    clear htwo e1 e2 e3 e4 HC HOr
    subst o10
    generalize shareK sd a = qa at *
    generalize shareK sd b = qb at *
    clear x0 m0 m1 m2 m3 m4 m5 m6 m7 m8 y0 n0 n1 n2 n3 n4 n5 n6 n7 n8
    unfold exV at *
    unfold exC at hW0
    unfold Gives
    go_enter Tryz.func107, Tryz.ntmps107
    go_upto_region 1 with fail
    rw [← hW0]
    clear hW0
    go_wp2_with fail
    have hS0 : Grew W0 W0.drew := (Grew.refl W0).drew
    refine wp_region_S (fun W => Grew W0 W) (by kernel_rfl) ?_
    refine held_take 0 (v := ?_) rfl (by kernel_rfl) (by kernel_rfl) (by kernel_rfl) (fun _ _ _ h => h) (by rfl) ?_ hS0 ?_
    rotate_left
    · (intro W hW; obtain ⟨x0, m0, m1, m2, m3, m4, m5, m6, m7, m8⟩ := blok9 (HX0.out.grew hW); obtain ⟨y0, n0, n1, n2, n3, n4, n5, n6, n7, n8⟩ := blok9 (HY0.out.grew hW); go_simp; with_reducible rfl)
    refine held_take 1 (v := ?_) rfl (by kernel_rfl) (by kernel_rfl) (by kernel_rfl) (fun _ _ _ h => h) (by rfl) ?_ hS0 ?_
    rotate_left
    · (intro W hW; obtain ⟨x0, m0, m1, m2, m3, m4, m5, m6, m7, m8⟩ := blok9 (HX0.out.grew hW); obtain ⟨y0, n0, n1, n2, n3, n4, n5, n6, n7, n8⟩ := blok9 (HY0.out.grew hW); go_simp; with_reducible rfl)
    refine held_take 3 (v := ?_) rfl (by kernel_rfl) (by kernel_rfl) (by kernel_rfl) (fun _ _ _ h => h) (by rfl) ?_ hS0 ?_
    rotate_left
    · (intro W hW; obtain ⟨x0, m0, m1, m2, m3, m4, m5, m6, m7, m8⟩ := blok9 (HX0.out.grew hW); obtain ⟨y0, n0, n1, n2, n3, n4, n5, n6, n7, n8⟩ := blok9 (HY0.out.grew hW); go_simp; with_reducible rfl)
    refine held_take 4 (v := ?_) rfl (by kernel_rfl) (by kernel_rfl) (by kernel_rfl) (fun _ _ _ h => h) (by rfl) ?_ hS0 ?_
    rotate_left
    · (intro W hW; obtain ⟨x0, m0, m1, m2, m3, m4, m5, m6, m7, m8⟩ := blok9 (HX0.out.grew hW); obtain ⟨y0, n0, n1, n2, n3, n4, n5, n6, n7, n8⟩ := blok9 (HY0.out.grew hW); go_simp; with_reducible rfl)
    refine held_norm (a' := ?_) ?_ ?_
    rotate_left
    · (go_simp; with_reducible rfl)
    refine held_call 2 (by kernel_rfl) rfl (by rfl) (fun K hK => ?_)
    go_simp
    go_wp2_with ((go_at_call 77; (with_reducible refine (HSa.out _ (HG0.out.trans hS0)).grows.mono ?_); rintro en wn ⟨rfl, hgn⟩; have hS1 := hS0.trans hgn))
    refine hK.out _ _ hS1 ?_
    clear hK K
    refine held_call 5 (by kernel_rfl) rfl (by rfl) (fun K hK => ?_)
    go_simp
    go_wp2_with ((go_at_call 77; (with_reducible refine (HSb.out _ (HG0.out.trans hS1)).grows.mono ?_); rintro en wn ⟨rfl, hgn2⟩; have hS2 := hS1.trans hgn2))
    refine hK.out _ _ hS2 ?_
    clear hK K
    refine held_call 6 (by kernel_rfl) rfl (by rfl) (fun K hK => ?_)
    go_simp
    go_wp2_with fail
    refine hK.out _ _ (hS2.alloc _) ?_
    clear hK K
    refine held_call 7 (by kernel_rfl) rfl (by rfl) (fun K hK => ?_)
    go_simp
    go_wp2_with ((go_at_call 55; (with_reducible refine (and2 _ _ ha hb _ _ _ (row_new _ _ _ _ rfl)).mono ?_); rintro en wz ⟨rfl, hwz⟩; subst hwz))
    refine hK.out _ _ (hS2.alloc _) ?_
    clear hK K
    refine held_take 8 (v := ?_) rfl (by kernel_rfl) (by kernel_rfl) (by kernel_rfl) (fun _ _ _ h => h) (by rfl) ?_ (hS2.alloc _) ?_
    rotate_left
    · (intro W hW; go_simp; with_reducible rfl)
    refine held_norm (a' := ?_) ?_ ?_
    rotate_left
    · (go_simp; with_reducible rfl)
    refine held_done (by kernel_rfl) ?_
    have HGf := Lib.hid ((HG0.out.trans hS2).alloc (.cells #[.float .f64 qa, .float .f64 qb] 43))
    clear hS2 hS1 hS0 hgn2 hgn
    go_wp2
    go_ret
    exact ⟨rfl, HGf.out⟩
  by_cases o11 : op = 11
  · refine htwo _ (e2 o11) ?_
    clear htwo e1 e2 e3 e4 HC o10
    subst o11
    generalize shareK sd a = qa at *
    generalize shareK sd b = qb at *
    generalize orB qa qb = qo at *
    clear x0 m0 m1 m2 m3 m4 m5 m6 m7 m8 y0 n0 n1 n2 n3 n4 n5 n6 n7 n8
    unfold exV at *
    unfold exC at hW0
    unfold Gives
    go_enter Tryz.func107, Tryz.ntmps107
    go_upto_region 1 with fail
    rw [← hW0]
    clear hW0
    go_wp2_with fail
    have hS0 : Grew W0 W0.drew := (Grew.refl W0).drew
    refine wp_region_S (fun W => Grew W0 W) (by kernel_rfl) ?_
    refine held_take 0 (v := ?_) rfl (by kernel_rfl) (by kernel_rfl) (by kernel_rfl) (fun _ _ _ h => h) (by rfl) ?_ hS0 ?_
    rotate_left
    · (intro W hW; obtain ⟨x0, m0, m1, m2, m3, m4, m5, m6, m7, m8⟩ := blok9 (HX0.out.grew hW); obtain ⟨y0, n0, n1, n2, n3, n4, n5, n6, n7, n8⟩ := blok9 (HY0.out.grew hW); go_simp; with_reducible rfl)
    refine held_take 1 (v := ?_) rfl (by kernel_rfl) (by kernel_rfl) (by kernel_rfl) (fun _ _ _ h => h) (by rfl) ?_ hS0 ?_
    rotate_left
    · (intro W hW; obtain ⟨x0, m0, m1, m2, m3, m4, m5, m6, m7, m8⟩ := blok9 (HX0.out.grew hW); obtain ⟨y0, n0, n1, n2, n3, n4, n5, n6, n7, n8⟩ := blok9 (HY0.out.grew hW); go_simp; with_reducible rfl)
    refine held_take 3 (v := ?_) rfl (by kernel_rfl) (by kernel_rfl) (by kernel_rfl) (fun _ _ _ h => h) (by rfl) ?_ hS0 ?_
    rotate_left
    · (intro W hW; obtain ⟨x0, m0, m1, m2, m3, m4, m5, m6, m7, m8⟩ := blok9 (HX0.out.grew hW); obtain ⟨y0, n0, n1, n2, n3, n4, n5, n6, n7, n8⟩ := blok9 (HY0.out.grew hW); go_simp; with_reducible rfl)
    refine held_take 4 (v := ?_) rfl (by kernel_rfl) (by kernel_rfl) (by kernel_rfl) (fun _ _ _ h => h) (by rfl) ?_ hS0 ?_
    rotate_left
    · (intro W hW; obtain ⟨x0, m0, m1, m2, m3, m4, m5, m6, m7, m8⟩ := blok9 (HX0.out.grew hW); obtain ⟨y0, n0, n1, n2, n3, n4, n5, n6, n7, n8⟩ := blok9 (HY0.out.grew hW); go_simp; with_reducible rfl)
    refine held_norm (a' := ?_) ?_ ?_
    rotate_left
    · (go_simp; with_reducible rfl)
    refine held_call 2 (by kernel_rfl) rfl (by rfl) (fun K hK => ?_)
    go_simp
    go_wp2_with ((go_at_call 77; (with_reducible refine (HSa.out _ (HG0.out.trans hS0)).grows.mono ?_); rintro en wn ⟨rfl, hgn⟩; have hS1 := hS0.trans hgn))
    refine hK.out _ _ hS1 ?_
    clear hK K
    refine held_call 5 (by kernel_rfl) rfl (by rfl) (fun K hK => ?_)
    go_simp
    go_wp2_with ((go_at_call 77; (with_reducible refine (HSb.out _ (HG0.out.trans hS1)).grows.mono ?_); rintro en wn ⟨rfl, hgn2⟩; have hS2 := hS1.trans hgn2))
    refine hK.out _ _ hS2 ?_
    clear hK K
    refine held_call 6 (by kernel_rfl) rfl (by rfl) (fun K hK => ?_)
    go_simp
    go_wp2_with ((go_at_call 130; (with_reducible refine (HOr.out _).mono ?_); rintro en wz ⟨rfl, hwz⟩; subst hwz))
    refine hK.out _ _ hS2 ?_
    clear hK K
    refine held_take 7 (v := ?_) rfl (by kernel_rfl) (by kernel_rfl) (by kernel_rfl) (fun _ _ _ h => h) (by rfl) ?_ hS2 ?_
    rotate_left
    · (intro W hW; go_simp; with_reducible rfl)
    refine held_norm (a' := ?_) ?_ ?_
    rotate_left
    · (go_simp; with_reducible rfl)
    refine held_done (by kernel_rfl) ?_
    have HGf := Lib.hid (HG0.out.trans hS2)
    clear hS2 hS1 hS0 hgn2 hgn
    go_wp2
    go_ret
    exact ⟨rfl, HGf.out⟩
  by_cases o16 : 1 ≤ op ∧ op ≤ 6
  · refine htwo _ (e3 o16) ?_
    replace HC := Lib.hid (HC.out o16)
    have hop : op = 1 ∨ op = 2 ∨ op = 3 ∨ op = 4 ∨ op = 5 ∨ op = 6 := by omega
    clear htwo e1 e2 e3 e4 HOr o10 o11 o16 HSa HSb ha hb
    generalize cmpK sd op a b = qc at *
    unfold exV at *
    unfold exC at hW0
    unfold Gives
    rcases hop with rfl | rfl | rfl | rfl | rfl | rfl
    all_goals
      go_enter Tryz.func107, Tryz.ntmps107
      go_upto_region 1 with fail
      rw [← hW0]
      clear hW0
      go_wp2_with (go_at_call 131; (refine (HC.out _ HG0.out).grows.mono ?_); rintro en wn ⟨rfl, hgn⟩; have HGf := Lib.hid (HG0.out.trans hgn); clear hgn)
      go_ret
      exact ⟨rfl, HGf.out⟩
  · refine htwo _ (e4 o10 o11 o16) ?_
    have f1 : (op == 1) = false := by rw [beq_eq_false_iff_ne]; omega
    have f2 : (op == 2) = false := by rw [beq_eq_false_iff_ne]; omega
    have f3 : (op == 3) = false := by rw [beq_eq_false_iff_ne]; omega
    have f4 : (op == 4) = false := by rw [beq_eq_false_iff_ne]; omega
    have f5 : (op == 5) = false := by rw [beq_eq_false_iff_ne]; omega
    have f6 : (op == 6) = false := by rw [beq_eq_false_iff_ne]; omega
    have f7 : (op == 10) = false := by rw [beq_eq_false_iff_ne]; omega
    have f8 : (op == 11) = false := by rw [beq_eq_false_iff_ne]; omega
    clear htwo e1 e2 e3 e4 HOr o10 o11 o16 HSa HSb ha hb HC
    unfold halfB
    unfold exV at *
    unfold exC at hW0
    unfold Gives
    go_enter Tryz.func107, Tryz.ntmps107
    go_upto_region 1 with fail
    rw [← hW0]
    clear hW0
    go_wp2
    go_ret
    exact ⟨rfl, HG0.out⟩
end Go.Proofs.YtbglmcebkpkccaaGreatDoor

namespace Go.Proofs.YtbglmcebkpkccaaGreatDoor
open Go.RowKit
attribute [local go_sem] more_cell more_frozen more_more more_setCell more_of_drew more_of_drewN lt_more le_more past_cell past_cell2 past_frozen past_frozen2 past_setCell past_setCell2 mid_cell mid_frozen mid_setCell
attribute [local go_sem] fldC0 fldC1 fldS0
attribute [local go_sem ↓] Go.wp_at_zero Go.wp_at_succ

set_option maxHeartbeats 4000000 in
set_option maxRecDepth 100000 in
theorem kshare_ex (sd : List Sst) (hs : OkSd sd) (A : Option Addr) (k : Nat) (u : World) (ra : SstsR (PRow u) A sd) (ht : TurnC u) (n : Nat) : ∀ (x : Ex), SizeOf.sizeOf x < n → ∀ (Ax : Option Addr) (kx : Nat) (w : World), Grew u w → ExsR (PRow u) Ax x.l →
    Gives Tryz.prog 77 #[.slice A sd.length k, exV x Ax kx] w (.float .f64 (shareK sd x)) := by
  induction n with
  | zero => intro x hn; omega
  | succ n ih =>
    intro x hn Ax kx w hg rx
    have HR := Lib.hid (rx.grew hg)
    have hsub : ∀ i (h : i < x.l.length), ∃ b o B k', Ax = some ⟨b, o, none⟩ ∧ (∀ W, Grew w W → Gives Tryz.prog 77 #[.slice A sd.length k, exV x.l[i] B k'] W (.float .f64 (shareK sd x.l[i]))) ∧ At9 w b (o + i * 9) x.l[i] B k' := fun i h => by
      obtain ⟨b, o, B, k', hA, hr, h9⟩ := exsR_nine rx h
      have := x.part_lt (List.getElem_mem h)
      exact ⟨b, o, B, k', hA, fun W hW => ih _ (by omega) B k' W (hg.trans hW) hr, h9.grew hg⟩
    obtain ⟨W0, hW0⟩ : ∃ W0, W0 = w.alloc (.cells (exC x Ax kx).toArray 27) := ⟨_, rfl⟩
    have HG0 : Hid (Grew w W0) := Lib.hid (by rw [hW0]; exact (Grew.refl w).alloc _)
    have HX0 : Hid (Blok W0 w.heap.size 27 (exC x Ax kx).toArray) := Lib.hid (by rw [hW0]; exact Blok.new _ _ _ _ rfl)
    obtain ⟨x0, m0, m1, m2, m3, m4, m5, m6, m7, m8⟩ := blok9 HX0.out
    by_cases h1 : x.l.length = 1
    · obtain ⟨a, hl⟩ := List.length_eq_one_iff.1 h1
      rw [shareK_one hl]
      obtain ⟨b, o, B, ka, hA, hsh, h9⟩ := hsub 0 (by omega)
      have ea : x.l[0]'(by omega) = a := by simp [hl]
      rw [ea] at hsh h9
      rw [Nat.zero_mul, Nat.add_zero] at h9
      have HO : Hid (∀ W, Grew w W → Gives Tryz.prog 106 #[.slice A sd.length k, .int .i64 x.op, exV a B ka] W (.float .f64 (oneK sd x.op a))) := Lib.hid fun W hW => kone_any sd hs x.op a B ka A k W ((ra.grew hg).grew hW) fun W' hW' => hsh W' (hW.trans hW')
      have H9 := Lib.hid h9
      clear hsub hsh h9 ea HR ih ra ht rx hs hn hl
      generalize oneK sd x.op a = q at *
      subst hA
      unfold exV at *
      unfold exC at hW0
      rw [h1] at hW0 m8 ⊢
      have HL := Lib.hid h1
      clear h1
      unfold Gives
      go_enter Tryz.func77, Tryz.ntmps77
      go_upto_region 1 with fail
      rw [← hW0]
      clear hW0
      go_wp2_with fail
      clear x0 m0 m1 m2 m3 m4 m5 m6 m7 m8
      have hS0 : Grew W0 W0.drew := (Grew.refl W0).drew
      refine wp_region_S (fun W => Grew W0 W) (by kernel_rfl) ?_
      refine held_take 0 (v := ?_) rfl (by kernel_rfl) (by kernel_rfl) (by kernel_rfl) (fun _ _ _ h => h) (by rfl) ?_ hS0 ?_
      rotate_left
      · (intro W hW; obtain ⟨x0, m0, m1, m2, m3, m4, m5, m6, m7, m8⟩ := blok9 (HX0.out.grew hW); rw [HL.out] at m8; obtain ⟨y0, n0, n1, n2, n3, n4, n5, n6, n7, n8⟩ := H9.out.grew (HG0.out.trans hW); go_simp; with_reducible rfl)
      refine held_take 1 (v := ?_) rfl (by kernel_rfl) (by kernel_rfl) (by kernel_rfl) (fun _ _ _ h => h) (by rfl) ?_ hS0 ?_
      rotate_left
      · (intro W hW; obtain ⟨x0, m0, m1, m2, m3, m4, m5, m6, m7, m8⟩ := blok9 (HX0.out.grew hW); rw [HL.out] at m8; obtain ⟨y0, n0, n1, n2, n3, n4, n5, n6, n7, n8⟩ := H9.out.grew (HG0.out.trans hW); go_simp; with_reducible rfl)
      refine held_take 2 (v := ?_) rfl (by kernel_rfl) (by kernel_rfl) (by kernel_rfl) (fun _ _ _ h => h) (by rfl) ?_ hS0 ?_
      rotate_left
      · (intro W hW; obtain ⟨x0, m0, m1, m2, m3, m4, m5, m6, m7, m8⟩ := blok9 (HX0.out.grew hW); rw [HL.out] at m8; obtain ⟨y0, n0, n1, n2, n3, n4, n5, n6, n7, n8⟩ := H9.out.grew (HG0.out.trans hW); go_simp; with_reducible rfl)
      refine held_take 3 (v := ?_) rfl (by kernel_rfl) (by kernel_rfl) (by kernel_rfl) (fun _ _ _ h => h) (by rfl) ?_ hS0 ?_
      rotate_left
      · (intro W hW; obtain ⟨x0, m0, m1, m2, m3, m4, m5, m6, m7, m8⟩ := blok9 (HX0.out.grew hW); rw [HL.out] at m8; obtain ⟨y0, n0, n1, n2, n3, n4, n5, n6, n7, n8⟩ := H9.out.grew (HG0.out.trans hW); go_simp; with_reducible rfl)
      refine held_take 4 (v := ?_) rfl (by kernel_rfl) (by kernel_rfl) (by kernel_rfl) (fun _ _ _ h => h) (by rfl) ?_ hS0 ?_
      rotate_left
      · (intro W hW; obtain ⟨x0, m0, m1, m2, m3, m4, m5, m6, m7, m8⟩ := blok9 (HX0.out.grew hW); rw [HL.out] at m8; obtain ⟨y0, n0, n1, n2, n3, n4, n5, n6, n7, n8⟩ := H9.out.grew (HG0.out.trans hW); go_simp; with_reducible rfl)
      refine held_take 5 (v := ?_) rfl (by kernel_rfl) (by kernel_rfl) (by kernel_rfl) (fun _ _ _ h => h) (by rfl) ?_ hS0 ?_
      rotate_left
      · (intro W hW; obtain ⟨x0, m0, m1, m2, m3, m4, m5, m6, m7, m8⟩ := blok9 (HX0.out.grew hW); rw [HL.out] at m8; obtain ⟨y0, n0, n1, n2, n3, n4, n5, n6, n7, n8⟩ := H9.out.grew (HG0.out.trans hW); go_simp; with_reducible rfl)
      refine held_take 6 (v := ?_) rfl (by kernel_rfl) (by kernel_rfl) (by kernel_rfl) (fun _ _ _ h => h) (by rfl) ?_ hS0 ?_
      rotate_left
      · (intro W hW; obtain ⟨x0, m0, m1, m2, m3, m4, m5, m6, m7, m8⟩ := blok9 (HX0.out.grew hW); rw [HL.out] at m8; obtain ⟨y0, n0, n1, n2, n3, n4, n5, n6, n7, n8⟩ := H9.out.grew (HG0.out.trans hW); go_simp; with_reducible rfl)
      refine held_norm (a' := ?_) ?_ ?_
      rotate_left
      · (go_simp; with_reducible rfl)
      refine held_call 7 (by kernel_rfl) rfl (by rfl) (fun K hK => ?_)
      go_simp
      go_wp2_with ((go_at_call 106; (with_reducible refine (HO.out _ (HG0.out.trans hS0)).grows.mono ?_); rintro en wn ⟨rfl, hgn⟩; have hS1 := hS0.trans hgn))
      refine hK.out _ _ hS1 ?_
      clear hK K
      refine held_take 8 (v := ?_) rfl (by kernel_rfl) (by kernel_rfl) (by kernel_rfl) (fun _ _ _ h => h) (by rfl) ?_ hS1 ?_
      rotate_left
      · (intro W hW; go_simp; with_reducible rfl)
      refine held_norm (a' := ?_) ?_ ?_
      rotate_left
      · (go_simp; with_reducible rfl)
      refine held_done (by kernel_rfl) ?_
      have HGf := Lib.hid (HG0.out.trans hS1)
      clear hS1 hS0 hgn
      go_wp2
      go_ret
      exact ⟨rfl, HGf.out⟩
    by_cases h2 : x.l.length = 2
    · obtain ⟨a, a', hl⟩ : ∃ a b, x.l = [a, b] := by
        match x.l, h2 with
        | [a, b], _ => exact ⟨a, b, rfl⟩
      rw [shareK_two hl]
      obtain ⟨b, o, B, ka, hA, hsh, h9⟩ := hsub 0 (by omega)
      obtain ⟨b', o', B', ka', hA', hsh', h9'⟩ := hsub 1 (by omega)
      have ea : x.l[0]'(by omega) = a := by simp [hl]
      have ea' : x.l[1]'(by omega) = a' := by simp [hl]
      rw [ea] at hsh h9
      rw [ea'] at hsh' h9'
      rw [hA] at hA'
      injection hA' with hA'
      injection hA' with hb ho _
      subst hb ho
      rw [Nat.zero_mul, Nat.add_zero] at h9
      rw [Nat.one_mul] at h9'
      have HO : Hid (∀ W, Grew w W → Gives Tryz.prog 107 #[.slice A sd.length k, .int .i64 x.op, exV a B ka, exV a' B' ka'] W (.float .f64 (twoK sd x.op a a'))) := Lib.hid fun W hW => ktwo_any sd hs x.op a a' B B' ka ka' A k W ((ra.grew hg).grew hW) ((ht.grew hg).grew hW) (fun W' hW' => hsh W' (hW.trans hW')) fun W' hW' => hsh' W' (hW.trans hW')
      have H9 := Lib.hid h9
      have H9' := Lib.hid h9'
      clear hsub hsh h9 hsh' h9' ea ea' HR ih ra ht rx hs hn hl
      generalize twoK sd x.op a a' = q at *
      subst hA
      unfold exV at *
      unfold exC at hW0
      rw [h2] at hW0 m8 ⊢
      have HL := Lib.hid h2
      clear h1 h2
      unfold Gives
      go_enter Tryz.func77, Tryz.ntmps77
      go_upto_region 1 with fail
      rw [← hW0]
      clear hW0
      go_wp2_with fail
      clear x0 m0 m1 m2 m3 m4 m5 m6 m7 m8
      have hS0 : Grew W0 W0.drew := (Grew.refl W0).drew
      refine wp_region_S (fun W => Grew W0 W) (by kernel_rfl) ?_
      refine held_take 0 (v := ?_) rfl (by kernel_rfl) (by kernel_rfl) (by kernel_rfl) (fun _ _ _ h => h) (by rfl) ?_ hS0 ?_
      rotate_left
      · (intro W hW; obtain ⟨x0, m0, m1, m2, m3, m4, m5, m6, m7, m8⟩ := blok9 (HX0.out.grew hW); rw [HL.out] at m8; obtain ⟨y0, n0, n1, n2, n3, n4, n5, n6, n7, n8⟩ := H9.out.grew (HG0.out.trans hW); obtain ⟨z0, p0, p1, p2, p3, p4, p5, p6, p7, p8⟩ := H9'.out.grew (HG0.out.trans hW); go_simp; with_reducible rfl)
      refine held_take 1 (v := ?_) rfl (by kernel_rfl) (by kernel_rfl) (by kernel_rfl) (fun _ _ _ h => h) (by rfl) ?_ hS0 ?_
      rotate_left
      · (intro W hW; obtain ⟨x0, m0, m1, m2, m3, m4, m5, m6, m7, m8⟩ := blok9 (HX0.out.grew hW); rw [HL.out] at m8; obtain ⟨y0, n0, n1, n2, n3, n4, n5, n6, n7, n8⟩ := H9.out.grew (HG0.out.trans hW); obtain ⟨z0, p0, p1, p2, p3, p4, p5, p6, p7, p8⟩ := H9'.out.grew (HG0.out.trans hW); go_simp; with_reducible rfl)
      refine held_take 2 (v := ?_) rfl (by kernel_rfl) (by kernel_rfl) (by kernel_rfl) (fun _ _ _ h => h) (by rfl) ?_ hS0 ?_
      rotate_left
      · (intro W hW; obtain ⟨x0, m0, m1, m2, m3, m4, m5, m6, m7, m8⟩ := blok9 (HX0.out.grew hW); rw [HL.out] at m8; obtain ⟨y0, n0, n1, n2, n3, n4, n5, n6, n7, n8⟩ := H9.out.grew (HG0.out.trans hW); obtain ⟨z0, p0, p1, p2, p3, p4, p5, p6, p7, p8⟩ := H9'.out.grew (HG0.out.trans hW); go_simp; with_reducible rfl)
      refine held_take 3 (v := ?_) rfl (by kernel_rfl) (by kernel_rfl) (by kernel_rfl) (fun _ _ _ h => h) (by rfl) ?_ hS0 ?_
      rotate_left
      · (intro W hW; obtain ⟨x0, m0, m1, m2, m3, m4, m5, m6, m7, m8⟩ := blok9 (HX0.out.grew hW); rw [HL.out] at m8; obtain ⟨y0, n0, n1, n2, n3, n4, n5, n6, n7, n8⟩ := H9.out.grew (HG0.out.trans hW); obtain ⟨z0, p0, p1, p2, p3, p4, p5, p6, p7, p8⟩ := H9'.out.grew (HG0.out.trans hW); go_simp; with_reducible rfl)
      refine held_take 4 (v := ?_) rfl (by kernel_rfl) (by kernel_rfl) (by kernel_rfl) (fun _ _ _ h => h) (by rfl) ?_ hS0 ?_
      rotate_left
      · (intro W hW; obtain ⟨x0, m0, m1, m2, m3, m4, m5, m6, m7, m8⟩ := blok9 (HX0.out.grew hW); rw [HL.out] at m8; obtain ⟨y0, n0, n1, n2, n3, n4, n5, n6, n7, n8⟩ := H9.out.grew (HG0.out.trans hW); obtain ⟨z0, p0, p1, p2, p3, p4, p5, p6, p7, p8⟩ := H9'.out.grew (HG0.out.trans hW); go_simp; with_reducible rfl)
      refine held_take 5 (v := ?_) rfl (by kernel_rfl) (by kernel_rfl) (by kernel_rfl) (fun _ _ _ h => h) (by rfl) ?_ hS0 ?_
      rotate_left
      · (intro W hW; obtain ⟨x0, m0, m1, m2, m3, m4, m5, m6, m7, m8⟩ := blok9 (HX0.out.grew hW); rw [HL.out] at m8; obtain ⟨y0, n0, n1, n2, n3, n4, n5, n6, n7, n8⟩ := H9.out.grew (HG0.out.trans hW); obtain ⟨z0, p0, p1, p2, p3, p4, p5, p6, p7, p8⟩ := H9'.out.grew (HG0.out.trans hW); go_simp; with_reducible rfl)
      refine held_take 6 (v := ?_) rfl (by kernel_rfl) (by kernel_rfl) (by kernel_rfl) (fun _ _ _ h => h) (by rfl) ?_ hS0 ?_
      rotate_left
      · (intro W hW; obtain ⟨x0, m0, m1, m2, m3, m4, m5, m6, m7, m8⟩ := blok9 (HX0.out.grew hW); rw [HL.out] at m8; obtain ⟨y0, n0, n1, n2, n3, n4, n5, n6, n7, n8⟩ := H9.out.grew (HG0.out.trans hW); obtain ⟨z0, p0, p1, p2, p3, p4, p5, p6, p7, p8⟩ := H9'.out.grew (HG0.out.trans hW); go_simp; with_reducible rfl)
      refine held_take 7 (v := ?_) rfl (by kernel_rfl) (by kernel_rfl) (by kernel_rfl) (fun _ _ _ h => h) (by rfl) ?_ hS0 ?_
      rotate_left
      · (intro W hW; obtain ⟨x0, m0, m1, m2, m3, m4, m5, m6, m7, m8⟩ := blok9 (HX0.out.grew hW); rw [HL.out] at m8; obtain ⟨y0, n0, n1, n2, n3, n4, n5, n6, n7, n8⟩ := H9.out.grew (HG0.out.trans hW); obtain ⟨z0, p0, p1, p2, p3, p4, p5, p6, p7, p8⟩ := H9'.out.grew (HG0.out.trans hW); go_simp; with_reducible rfl)
      refine held_take 8 (v := ?_) rfl (by kernel_rfl) (by kernel_rfl) (by kernel_rfl) (fun _ _ _ h => h) (by rfl) ?_ hS0 ?_
      rotate_left
      · (intro W hW; obtain ⟨x0, m0, m1, m2, m3, m4, m5, m6, m7, m8⟩ := blok9 (HX0.out.grew hW); rw [HL.out] at m8; obtain ⟨y0, n0, n1, n2, n3, n4, n5, n6, n7, n8⟩ := H9.out.grew (HG0.out.trans hW); obtain ⟨z0, p0, p1, p2, p3, p4, p5, p6, p7, p8⟩ := H9'.out.grew (HG0.out.trans hW); go_simp; with_reducible rfl)
      refine held_take 9 (v := ?_) rfl (by kernel_rfl) (by kernel_rfl) (by kernel_rfl) (fun _ _ _ h => h) (by rfl) ?_ hS0 ?_
      rotate_left
      · (intro W hW; obtain ⟨x0, m0, m1, m2, m3, m4, m5, m6, m7, m8⟩ := blok9 (HX0.out.grew hW); rw [HL.out] at m8; obtain ⟨y0, n0, n1, n2, n3, n4, n5, n6, n7, n8⟩ := H9.out.grew (HG0.out.trans hW); obtain ⟨z0, p0, p1, p2, p3, p4, p5, p6, p7, p8⟩ := H9'.out.grew (HG0.out.trans hW); go_simp; with_reducible rfl)
      refine held_take 10 (v := ?_) rfl (by kernel_rfl) (by kernel_rfl) (by kernel_rfl) (fun _ _ _ h => h) (by rfl) ?_ hS0 ?_
      rotate_left
      · (intro W hW; obtain ⟨x0, m0, m1, m2, m3, m4, m5, m6, m7, m8⟩ := blok9 (HX0.out.grew hW); rw [HL.out] at m8; obtain ⟨y0, n0, n1, n2, n3, n4, n5, n6, n7, n8⟩ := H9.out.grew (HG0.out.trans hW); obtain ⟨z0, p0, p1, p2, p3, p4, p5, p6, p7, p8⟩ := H9'.out.grew (HG0.out.trans hW); go_simp; with_reducible rfl)
      refine held_norm (a' := ?_) ?_ ?_
      rotate_left
      · (go_simp; with_reducible rfl)
      refine held_call 11 (by kernel_rfl) rfl (by rfl) (fun K hK => ?_)
      go_simp
      go_wp2_with ((go_at_call 107; (with_reducible refine (HO.out _ (HG0.out.trans hS0)).grows.mono ?_); rintro en wn ⟨rfl, hgn⟩; have hS1 := hS0.trans hgn))
      refine hK.out _ _ hS1 ?_
      clear hK K
      refine held_take 12 (v := ?_) rfl (by kernel_rfl) (by kernel_rfl) (by kernel_rfl) (fun _ _ _ h => h) (by rfl) ?_ hS1 ?_
      rotate_left
      · (intro W hW; go_simp; with_reducible rfl)
      refine held_norm (a' := ?_) ?_ ?_
      rotate_left
      · (go_simp; with_reducible rfl)
      refine held_done (by kernel_rfl) ?_
      have HGf := Lib.hid (HG0.out.trans hS1)
      clear hS1 hS0 hgn
      go_wp2
      go_ret
      exact ⟨rfl, HGf.out⟩
    · rw [shareK_else h1 h2]
      have f1 : ((x.l.length : Int) == 1) = false := by rw [beq_eq_false_iff_ne]; omega
      have f2 : ((x.l.length : Int) == 2) = false := by rw [beq_eq_false_iff_ne]; omega
      clear hsub HR ih ra ht rx hs hn h1 h2
      unfold halfB
      unfold exV at *
      unfold exC at hW0
      generalize x.l.length = nl at *
      unfold Gives
      go_enter Tryz.func77, Tryz.ntmps77
      go_upto_region 1 with fail
      rw [← hW0]
      clear hW0
      go_wp2
      go_ret
      exact ⟨rfl, HG0.out⟩
end Go.Proofs.YtbglmcebkpkccaaGreatDoor
