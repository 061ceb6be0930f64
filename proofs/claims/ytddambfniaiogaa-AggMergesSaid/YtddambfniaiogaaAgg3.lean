/- Layer 14: what an aggregate tells in the end, and of a list. Condition: no more than a hundred thousand values. -/
import Derived.Test.YtddambfniaiogaaAgg2
import Derived.WalkMore
namespace Go.Proofs.Ytddambfniaiogaa
open Go.RowKit
attribute [local go_sem] more_cell more_frozen more_more more_setCell more_of_drew more_of_drewN lt_more le_more past_cell past_cell2 past_frozen past_frozen2 past_setCell past_setCell2 mid_cell mid_frozen mid_setCell
attribute [local go_sem ↓] Go.wp_at_zero Go.wp_at_succ

theorem resS_cases (a : AccS) : (a.op = 17 ∧ resS a = (⟨1, a.rows, ⟨#[]⟩⟩, 0)) ∨ (a.op = 18 ∧ resS a = (⟨1, a.whole, ⟨#[]⟩⟩, 0)) ∨ (a.op = 19 ∧ resS a = totalP a) ∨ (a.op = 20 ∧ resS a = extremeP a) ∨ (a.op = 21 ∧ resS a = extremeP a) ∨ ((a.op == 17) = false ∧ (a.op == 18) = false ∧ (a.op == 19) = false ∧ (a.op == 20) = false ∧ (a.op == 21) = false ∧ resS a = (zV, 3)) := by
  unfold resS totalP extremeP
  by_cases h1 : a.op = 17
  · exact Or.inl ⟨h1, by rw [if_pos h1]⟩
  by_cases h2 : a.op = 18
  · exact Or.inr (Or.inl ⟨h2, by rw [if_neg h1, if_pos h2]⟩)
  by_cases h3 : a.op = 19
  · exact Or.inr (Or.inr (Or.inl ⟨h3, by rw [if_neg h1, if_neg h2, if_pos h3]⟩))
  by_cases h4 : a.op = 20
  · exact Or.inr (Or.inr (Or.inr (Or.inl ⟨h4, by rw [if_neg h1, if_neg h2, if_neg h3, if_pos (Or.inl h4)]⟩)))
  by_cases h5 : a.op = 21
  · exact Or.inr (Or.inr (Or.inr (Or.inr (Or.inl ⟨h5, by rw [if_neg h1, if_neg h2, if_neg h3, if_pos (Or.inr h5)]⟩))))
  · exact Or.inr (Or.inr (Or.inr (Or.inr (Or.inr ⟨by simpa using h1, by simpa using h2, by simpa using h3, by simpa using h4, by simpa using h5, by rw [if_neg h1, if_neg h2, if_neg h3, if_neg (by rintro (h | h); exact h4 h; exact h5 h)]⟩))))
set_option maxHeartbeats 4000000 in
set_option maxRecDepth 100000 in
theorem result_any (a : AccS) (hz : isW a.z) (w : World) : Gives Try.prog 37 #[accV a] w (.tuple #[vlV (resS a).1, .int .i64 (resS a).2]) := by
  have HN : Hid (∀ W, Gives Try.prog 108 #[accV a] W (.tuple #[vlV zV, .int .i64 3])) := Lib.hid fun W => none_any a W
  have HAl : Hid (∀ W, Gives Try.prog 109 #[accV a] W (.tuple #[vlV ⟨1, a.rows, ⟨#[]⟩⟩, .int .i64 0])) := Lib.hid fun W => all_any a W
  have HSo : Hid (∀ W, Gives Try.prog 110 #[accV a] W (.tuple #[vlV ⟨1, a.whole, ⟨#[]⟩⟩, .int .i64 0])) := Lib.hid fun W => some_any a W
  have HTo : Hid (∀ W, Gives Try.prog 111 #[accV a] W (.tuple #[vlV (totalP a).1, .int .i64 (totalP a).2])) := Lib.hid fun W => total_any a hz W
  have HEx : Hid (∀ W, Gives Try.prog 112 #[accV a] W (.tuple #[vlV (extremeP a).1, .int .i64 (extremeP a).2])) := Lib.hid fun W => extreme_any a W
  have hc := resS_cases a
  clear hz
  generalize totalP a = tp at *
  generalize extremeP a = ep at *
  generalize resS a = r at *
  obtain ⟨op, rows, whole, wrong, z, zn, bk, bi, bs⟩ := a
  obtain ⟨⟨tk, ti, ts⟩, te⟩ := tp
  obtain ⟨⟨ek, ei, es⟩, ee⟩ := ep
  unfold accV vlV zV at *
  simp only at *
  generalize H z = hz at *
  generalize L z = lz at *
  rcases hc with ⟨rfl, rfl⟩ | ⟨rfl, rfl⟩ | ⟨rfl, rfl⟩ | ⟨rfl, rfl⟩ | ⟨rfl, rfl⟩ | ⟨h1, h2, h3, h4, h5, rfl⟩
  · simp only
    unfold Gives
    go_enter Try.func37, Try.ntmps37
    go_wp2_with fail
    refine (HAl.out _).grows.mono ?_
    rintro e w1 ⟨rfl, hg1⟩
    have HG1 : Hid (Grew w w1) := Lib.hid ((((Grew.refl w).alloc _).alloc _).trans hg1)
    have HB1 : Hid (Blok w1 (w.heap.size + 1) 23 #[.int .i64 0, .int .i64 0, .string ⟨#[]⟩]) := Lib.hid ((Blok.new _ _ _ _ (by simp)).grew hg1)
    obtain ⟨p1, c0, c1, c2, d0, d1, d2⟩ := val_in HB1.out
    clear hg1
    go_wp2
    have hb := val_set HB1.out (.int .i64 1) (.int .i64 (rows : Int)) (.string ⟨#[]⟩)
    obtain ⟨_, r0, r1, r2, _, _, _⟩ := val_in hb
    exact bodyPost_ret (v := .tuple #[.agg #[.int .i64 1, .int .i64 (rows : Int), .string ⟨#[]⟩], .int .i64 0]) (by simp [results, Try.results37, go_sem, r0, r1, r2]) rfl ⟨rfl, grew_set3 HG1.out (by omega) _ _ _⟩
  · simp only
    unfold Gives
    go_enter Try.func37, Try.ntmps37
    go_wp2_with fail
    refine (HSo.out _).grows.mono ?_
    rintro e w1 ⟨rfl, hg1⟩
    have HG1 : Hid (Grew w w1) := Lib.hid ((((Grew.refl w).alloc _).alloc _).trans hg1)
    have HB1 : Hid (Blok w1 (w.heap.size + 1) 23 #[.int .i64 0, .int .i64 0, .string ⟨#[]⟩]) := Lib.hid ((Blok.new _ _ _ _ (by simp)).grew hg1)
    obtain ⟨p1, c0, c1, c2, d0, d1, d2⟩ := val_in HB1.out
    clear hg1
    go_wp2
    have hb := val_set HB1.out (.int .i64 1) (.int .i64 (whole : Int)) (.string ⟨#[]⟩)
    obtain ⟨_, r0, r1, r2, _, _, _⟩ := val_in hb
    exact bodyPost_ret (v := .tuple #[.agg #[.int .i64 1, .int .i64 (whole : Int), .string ⟨#[]⟩], .int .i64 0]) (by simp [results, Try.results37, go_sem, r0, r1, r2]) rfl ⟨rfl, grew_set3 HG1.out (by omega) _ _ _⟩
  · simp only
    unfold Gives
    go_enter Try.func37, Try.ntmps37
    go_wp2_with fail
    refine (HTo.out _).grows.mono ?_
    rintro e w1 ⟨rfl, hg1⟩
    have HG1 : Hid (Grew w w1) := Lib.hid ((((Grew.refl w).alloc _).alloc _).trans hg1)
    have HB1 : Hid (Blok w1 (w.heap.size + 1) 23 #[.int .i64 0, .int .i64 0, .string ⟨#[]⟩]) := Lib.hid ((Blok.new _ _ _ _ (by simp)).grew hg1)
    obtain ⟨p1, c0, c1, c2, d0, d1, d2⟩ := val_in HB1.out
    clear hg1
    go_wp2
    have hb := val_set HB1.out (.int .i64 tk) (.int .i64 ti) (.string ts)
    obtain ⟨_, r0, r1, r2, _, _, _⟩ := val_in hb
    exact bodyPost_ret (v := .tuple #[.agg #[.int .i64 tk, .int .i64 ti, .string ts], .int .i64 te]) (by simp [results, Try.results37, go_sem, r0, r1, r2]) rfl ⟨rfl, grew_set3 HG1.out (by omega) _ _ _⟩
  · simp only
    unfold Gives
    go_enter Try.func37, Try.ntmps37
    go_wp2_with fail
    refine (HEx.out _).grows.mono ?_
    rintro e w1 ⟨rfl, hg1⟩
    have HG1 : Hid (Grew w w1) := Lib.hid ((((Grew.refl w).alloc _).alloc _).trans hg1)
    have HB1 : Hid (Blok w1 (w.heap.size + 1) 23 #[.int .i64 0, .int .i64 0, .string ⟨#[]⟩]) := Lib.hid ((Blok.new _ _ _ _ (by simp)).grew hg1)
    obtain ⟨p1, c0, c1, c2, d0, d1, d2⟩ := val_in HB1.out
    clear hg1
    go_wp2
    have hb := val_set HB1.out (.int .i64 ek) (.int .i64 ei) (.string es)
    obtain ⟨_, r0, r1, r2, _, _, _⟩ := val_in hb
    exact bodyPost_ret (v := .tuple #[.agg #[.int .i64 ek, .int .i64 ei, .string es], .int .i64 ee]) (by simp [results, Try.results37, go_sem, r0, r1, r2]) rfl ⟨rfl, grew_set3 HG1.out (by omega) _ _ _⟩
  · simp only
    unfold Gives
    go_enter Try.func37, Try.ntmps37
    go_wp2_with fail
    refine (HEx.out _).grows.mono ?_
    rintro e w1 ⟨rfl, hg1⟩
    have HG1 : Hid (Grew w w1) := Lib.hid ((((Grew.refl w).alloc _).alloc _).trans hg1)
    have HB1 : Hid (Blok w1 (w.heap.size + 1) 23 #[.int .i64 0, .int .i64 0, .string ⟨#[]⟩]) := Lib.hid ((Blok.new _ _ _ _ (by simp)).grew hg1)
    obtain ⟨p1, c0, c1, c2, d0, d1, d2⟩ := val_in HB1.out
    clear hg1
    go_wp2
    have hb := val_set HB1.out (.int .i64 ek) (.int .i64 ei) (.string es)
    obtain ⟨_, r0, r1, r2, _, _, _⟩ := val_in hb
    exact bodyPost_ret (v := .tuple #[.agg #[.int .i64 ek, .int .i64 ei, .string es], .int .i64 ee]) (by simp [results, Try.results37, go_sem, r0, r1, r2]) rfl ⟨rfl, grew_set3 HG1.out (by omega) _ _ _⟩
  · simp only
    unfold Gives
    go_enter Try.func37, Try.ntmps37
    go_wp2_with fail
    refine (HN.out _).grows.mono ?_
    rintro e w1 ⟨rfl, hg1⟩
    have HG1 : Hid (Grew w w1) := Lib.hid ((((Grew.refl w).alloc _).alloc _).trans hg1)
    have HB1 : Hid (Blok w1 (w.heap.size + 1) 23 #[.int .i64 0, .int .i64 0, .string ⟨#[]⟩]) := Lib.hid ((Blok.new _ _ _ _ (by simp)).grew hg1)
    obtain ⟨p1, c0, c1, c2, d0, d1, d2⟩ := val_in HB1.out
    clear hg1
    go_wp2
    have hb := val_set HB1.out (.int .i64 0) (.int .i64 0) (.string ⟨#[]⟩)
    obtain ⟨_, r0, r1, r2, _, _, _⟩ := val_in hb
    exact bodyPost_ret (v := .tuple #[.agg #[.int .i64 0, .int .i64 0, .string ⟨#[]⟩], .int .i64 3]) (by simp [results, Try.results37, go_sem, r0, r1, r2]) rfl ⟨rfl, grew_set3 HG1.out (by omega) _ _ _⟩
end Go.Proofs.Ytddambfniaiogaa
