/- Layer 14: one value more. Condition: counts within a hundred thousand. -/
import Derived.Test.YtddambfniaiogaaAgg
namespace Go.Proofs.Ytddambfniaiogaa
open Go.RowKit
attribute [local go_sem] more_cell more_frozen more_more more_setCell more_of_drew more_of_drewN lt_more le_more past_cell past_cell2 past_frozen past_frozen2 past_setCell past_setCell2 mid_cell mid_frozen mid_setCell
attribute [local go_sem ↓] Go.wp_at_zero Go.wp_at_succ

/-- The ten cells of a state in a block of one's own. -/
structure AccIn (w : World) (g : Nat) (a0 a1 a2 a3 a4 a5 a6 a7 a8 a9 : Value) : Prop where
  lt : g < w.heap.size
  c0 : w.cell? ⟨g, 0, none⟩ = some a0
  c1 : w.cell? ⟨g, 1, none⟩ = some a1
  c2 : w.cell? ⟨g, 2, none⟩ = some a2
  c3 : w.cell? ⟨g, 3, none⟩ = some a3
  c4 : w.cell? ⟨g, 4, none⟩ = some a4
  c5 : w.cell? ⟨g, 5, none⟩ = some a5
  c6 : w.cell? ⟨g, 6, none⟩ = some a6
  c7 : w.cell? ⟨g, 7, none⟩ = some a7
  c8 : w.cell? ⟨g, 8, none⟩ = some a8
  c9 : w.cell? ⟨g, 9, none⟩ = some a9
theorem acc_in {w : World} {g : Nat} {a0 a1 a2 a3 a4 a5 a6 a7 a8 a9 : Value} (h : Blok w g 58 #[a0, a1, a2, a3, a4, a5, a6, a7, a8, a9]) : AccIn w g a0 a1 a2 a3 a4 a5 a6 a7 a8 a9 :=
  ⟨h.lt, h.cell 0, h.cell 1, h.cell 2, h.cell 3, h.cell 4, h.cell 5, h.cell 6, h.cell 7, h.cell 8, h.cell 9⟩
theorem acc_th {w : World} {g : Nat} {cs : Array Value} (h : Blok w g 58 cs) : w.frozen? ⟨g, 0, none⟩ = false ∧ w.frozen? ⟨g, 1, none⟩ = false ∧ w.frozen? ⟨g, 2, none⟩ = false ∧ w.frozen? ⟨g, 3, none⟩ = false ∧ w.frozen? ⟨g, 4, none⟩ = false ∧ w.frozen? ⟨g, 5, none⟩ = false ∧ w.frozen? ⟨g, 6, none⟩ = false ∧ w.frozen? ⟨g, 7, none⟩ = false ∧ w.frozen? ⟨g, 8, none⟩ = false ∧ w.frozen? ⟨g, 9, none⟩ = false :=
  ⟨h.thaw 0, h.thaw 1, h.thaw 2, h.thaw 3, h.thaw 4, h.thaw 5, h.thaw 6, h.thaw 7, h.thaw 8, h.thaw 9⟩
theorem acc_set {w : World} {g : Nat} {a0 a1 a2 a3 a4 a5 a6 a7 a8 a9 : Value} (h : Blok w g 58 #[a0, a1, a2, a3, a4, a5, a6, a7, a8, a9]) (b0 b1 b2 b3 b4 b5 b6 b7 b8 b9 : Value) :
    Blok ((((((((((w.setCell ⟨g, 0, none⟩ b0).setCell ⟨g, 1, none⟩ b1).setCell ⟨g, 2, none⟩ b2).setCell ⟨g, 3, none⟩ b3).setCell ⟨g, 4, none⟩ b4).setCell ⟨g, 5, none⟩ b5).setCell ⟨g, 6, none⟩ b6).setCell ⟨g, 7, none⟩ b7).setCell ⟨g, 8, none⟩ b8).setCell ⟨g, 9, none⟩ b9) g 58 #[b0, b1, b2, b3, b4, b5, b6, b7, b8, b9] := by
  have := (((((((((h.set 0 b0).set 1 b1).set 2 b2).set 3 b3).set 4 b4).set 5 b5).set 6 b6).set 7 b7).set 8 b8).set 9 b9
  simpa using this
theorem grew_set10 {u w : World} (h : Grew u w) {g : Nat} (hg : u.heap.size ≤ g) (b0 b1 b2 b3 b4 b5 b6 b7 b8 b9 : Value) :
    Grew u ((((((((((w.setCell ⟨g, 0, none⟩ b0).setCell ⟨g, 1, none⟩ b1).setCell ⟨g, 2, none⟩ b2).setCell ⟨g, 3, none⟩ b3).setCell ⟨g, 4, none⟩ b4).setCell ⟨g, 5, none⟩ b5).setCell ⟨g, 6, none⟩ b6).setCell ⟨g, 7, none⟩ b7).setCell ⟨g, 8, none⟩ b8).setCell ⟨g, 9, none⟩ b9) := by
  iterate 10 refine Grew.setCell ?_ hg _
  exact h
set_option maxHeartbeats 4000000 in
set_option maxRecDepth 100000 in
theorem feed_any (a : AccS) (v : Vl) (hr : a.rows ≤ 100000) (hw : a.whole ≤ 100000) (hz : a.zn ≤ 100000) (hv : isI v.i) (w : World) : Gives Try.prog 36 #[accV a, vlV v] w (accV (feedS a v)) := by
  obtain ⟨op, rows, whole, wrong, z, zn, bk, bi, bs⟩ := a
  obtain ⟨k, i, s⟩ := v
  have HBT : Hid (∀ W, Gives Try.prog 107 #[.int .i64 op, vlV ⟨k, i, s⟩, vlV ⟨bk, bi, bs⟩] W (.bool (betterB op ⟨k, i, s⟩ ⟨bk, bi, bs⟩))) := Lib.hid fun W => better_any op _ _ W
  unfold feedS accV vlV at *
  simp only at *
  generalize hbt : betterB op ⟨k, i, s⟩ ⟨bk, bi, bs⟩ = bt at *
  clear hbt
  have HNu : Hid (∀ W, Gives Try.prog 105 #[.agg #[.int .i64 k, .int .i64 i, .string s]] W (.bool (k == 0))) := Lib.hid fun W => isnull_any k i s W
  have HPl : Hid (∀ W, Gives Try.prog 106 #[.agg #[.int .u64 (H z), .int .u64 (L z), .int .i64 zn], .int .i64 i] W (.agg #[.int .u64 (H (z + i)), .int .u64 (L (z + i)), .int .i64 (zn + 1)])) := Lib.hid fun W => plusS_any z zn i hv (by omega) (by omega) W
  clear hv
  by_cases h0 : k = 0
  · rw [if_pos h0]
    subst h0
    push_cast at *
    unfold Gives
    go_enter Try.func36, Try.ntmps36
    go_wp2_with fail
    refine (HNu.out _).grows.mono ?_
    rintro e w1 ⟨rfl, hg1⟩
    have HG1 : Hid (Grew w w1) := Lib.hid (((((Grew.refl w).alloc _).alloc _).alloc _).trans hg1)
    have HA1 : Hid (Blok w1 w.heap.size 58 #[.int .i64 op, .int .i64 ((rows : Int) + 1), .int .i64 whole, .bool wrong, .int .u64 (H z), .int .u64 (L z), .int .i64 zn, .int .i64 bk, .int .i64 bi, .string bs]) := Lib.hid ((((Blok.new _ _ _ _ rfl).alloc _).alloc _).grew hg1)
    have HV1 : Hid (Blok w1 (w.heap.size + 1) 23 #[.int .i64 0, .int .i64 i, .string s]) := Lib.hid (((Blok.new _ _ _ _ (by simp)).alloc _).grew hg1)
    have HZ1 : Hid (Blok w1 (w.heap.size + 1 + 1) 58 #[.int .i64 0, .int .i64 0, .int .i64 0, .bool false, .int .u64 0, .int .u64 0, .int .i64 0, .int .i64 0, .int .i64 0, .string ⟨#[]⟩]) := Lib.hid ((Blok.new _ _ _ _ (by simp)).grew hg1)
    clear hg1 HNu
    generalize hga : w.heap.size = ga at *
    have HGA := Lib.hid hga
    clear hga
    obtain ⟨la, a0, a1, a2, a3, a4, a5, a6, a7, a8, a9⟩ := acc_in HA1.out
    obtain ⟨b0, b1, b2, b3, b4, b5, b6, b7, b8, b9⟩ := acc_th HA1.out
    obtain ⟨lv, v0, v1, v2, _, _, _⟩ := val_in HV1.out
    obtain ⟨lz, z0, z1, z2, z3, z4, z5, z6, z7, z8, z9⟩ := acc_in HZ1.out
    obtain ⟨y0, y1, y2, y3, y4, y5, y6, y7, y8, y9⟩ := acc_th HZ1.out
    go_wp2
    have bz : Blok w1 (ga + 1 + 1) 58 #[.int .i64 0, .int .i64 0, .int .i64 0, .bool false, .int .u64 0, .int .u64 0, .int .i64 0, .int .i64 0, .int .i64 0, .string ⟨#[]⟩] := by
      repeat (first | with_reducible exact HZ1.out | refine Blok.far ?_ (by simp <;> omega) _)
    have bg : Grew w w1 := by
      repeat (first | with_reducible exact HG1.out | refine Grew.setCell ?_ (by rw [HGA.out]; exact Nat.le_refl _) _)
    have hb := acc_set bz (.int .i64 op) (.int .i64 ((rows : Int) + 1)) (.int .i64 whole) (.bool wrong) (.int .u64 (H z)) (.int .u64 (L z)) (.int .i64 zn) (.int .i64 bk) (.int .i64 bi) (.string bs)
    obtain ⟨_, r0, r1, r2, r3, r4, r5, r6, r7, r8, r9⟩ := acc_in hb
    exact bodyPost_ret (v := .agg #[.int .i64 op, .int .i64 ((rows : Int) + 1), .int .i64 whole, .bool wrong, .int .u64 (H z), .int .u64 (L z), .int .i64 zn, .int .i64 bk, .int .i64 bi, .string bs]) (by simp [results, Try.results36, go_sem, r0, r1, r2, r3, r4, r5, r6, r7, r8, r9]) rfl ⟨rfl, grew_set10 bg (by rw [HGA.out]; omega) _ _ _ _ _ _ _ _ _ _⟩
  · rw [if_neg h0]
    have hk0 : (k == 0) = false := by simpa using h0
    push_cast at *
    obtain ⟨b', hb'⟩ : ∃ b', (if whole = 0 ∨ bt = true then (⟨k, i, s⟩ : Vl) else ⟨bk, bi, bs⟩) = b' := ⟨_, rfl⟩
    rw [hb']
    have hcase : (whole = 0 ∧ b' = ⟨k, i, s⟩) ∨ (((whole : Int) == 0) = false ∧ bt = true ∧ b' = ⟨k, i, s⟩) ∨ (((whole : Int) == 0) = false ∧ bt = false ∧ b' = ⟨bk, bi, bs⟩) := by
      by_cases c1 : whole = 0
      · exact Or.inl ⟨c1, by rw [← hb', if_pos (Or.inl c1)]⟩
      · have c2 : ((whole : Int) == 0) = false := by simpa using c1
        cases bt
        · exact Or.inr (Or.inr ⟨c2, rfl, by rw [← hb', if_neg (by simpa using c1)]⟩)
        · exact Or.inr (Or.inl ⟨c2, rfl, by rw [← hb', if_pos (Or.inr rfl)]⟩)
    clear hb' h0
    by_cases h1 : k = 1
    · rw [if_pos h1, if_pos h1, if_pos h1]
      subst h1
      push_cast at *
      rcases hcase with ⟨c1, rfl⟩ | ⟨c1, rfl, rfl⟩ | ⟨c1, rfl, rfl⟩
      · subst c1
        push_cast at *
        unfold Gives
        go_enter Try.func36, Try.ntmps36
        go_wp2_with fail
        refine (HNu.out _).grows.mono ?_
        rintro e w1 ⟨rfl, hg1⟩
        have HG1 : Hid (Grew w w1) := Lib.hid (((((Grew.refl w).alloc _).alloc _).alloc _).trans hg1)
        have HA1 : Hid (Blok w1 w.heap.size 58 #[.int .i64 op, .int .i64 ((rows : Int) + 1), .int .i64 0, .bool wrong, .int .u64 (H z), .int .u64 (L z), .int .i64 zn, .int .i64 bk, .int .i64 bi, .string bs]) := Lib.hid ((((Blok.new _ _ _ _ rfl).alloc _).alloc _).grew hg1)
        have HV1 : Hid (Blok w1 (w.heap.size + 1) 23 #[.int .i64 1, .int .i64 i, .string s]) := Lib.hid (((Blok.new _ _ _ _ (by simp)).alloc _).grew hg1)
        have HZ1 : Hid (Blok w1 (w.heap.size + 1 + 1) 58 #[.int .i64 0, .int .i64 0, .int .i64 0, .bool false, .int .u64 0, .int .u64 0, .int .i64 0, .int .i64 0, .int .i64 0, .string ⟨#[]⟩]) := Lib.hid ((Blok.new _ _ _ _ (by simp)).grew hg1)
        clear hg1 HNu
        generalize hga : w.heap.size = ga at *
        have HGA := Lib.hid hga
        clear hga
        obtain ⟨la, a0, a1, a2, a3, a4, a5, a6, a7, a8, a9⟩ := acc_in HA1.out
        obtain ⟨b0, b1, b2, b3, b4, b5, b6, b7, b8, b9⟩ := acc_th HA1.out
        obtain ⟨lv, v0, v1, v2, _, _, _⟩ := val_in HV1.out
        obtain ⟨lz, z0, z1, z2, z3, z4, z5, z6, z7, z8, z9⟩ := acc_in HZ1.out
        obtain ⟨y0, y1, y2, y3, y4, y5, y6, y7, y8, y9⟩ := acc_th HZ1.out
        go_wp2_with fail
        refine (HPl.out _).grows.mono ?_
        rintro e w2 ⟨rfl, hg⟩
        have ba : Blok (w1.setCell ⟨ga, 2, none⟩ (.int .i64 1)) ga 58 #[.int .i64 op, .int .i64 ((rows : Int) + 1), .int .i64 1, .bool wrong, .int .u64 (H z), .int .u64 (L z), .int .i64 zn, .int .i64 bk, .int .i64 bi, .string bs] := by
          have := (HA1.out.set 2 (.int .i64 1))
          simpa using this
        have bv : Blok (w1.setCell ⟨ga, 2, none⟩ (.int .i64 1)) (ga + 1) 23 #[.int .i64 1, .int .i64 i, .string s] := by
          repeat (first | with_reducible exact HV1.out | refine Blok.far ?_ (by simp) _)
        have bz : Blok (w1.setCell ⟨ga, 2, none⟩ (.int .i64 1)) (ga + 1 + 1) 58 #[.int .i64 0, .int .i64 0, .int .i64 0, .bool false, .int .u64 0, .int .u64 0, .int .i64 0, .int .i64 0, .int .i64 0, .string ⟨#[]⟩] := by
          repeat (first | with_reducible exact HZ1.out | refine Blok.far ?_ (by simp <;> omega) _)
        have bg : Grew w (w1.setCell ⟨ga, 2, none⟩ (.int .i64 1)) := by
          repeat (first | with_reducible exact HG1.out | refine Grew.setCell ?_ (by rw [HGA.out]; exact Nat.le_refl _) _)
        have HA2 := Lib.hid (ba.grew hg)
        have HV2 := Lib.hid (bv.grew hg)
        have HZ2 := Lib.hid (bz.grew hg)
        have HG2 := Lib.hid (bg.trans hg)
        clear hg ba bv bz bg HA1 HV1 HZ1 HG1
        clear la a0 a1 a2 a3 a4 a5 a6 a7 a8 a9 b0 b1 b2 b3 b4 b5 b6 b7 b8 b9 lv v0 v1 v2 lz z0 z1 z2 z3 z4 z5 z6 z7 z8 z9 y0 y1 y2 y3 y4 y5 y6 y7 y8 y9
        obtain ⟨la, a0, a1, a2, a3, a4, a5, a6, a7, a8, a9⟩ := acc_in HA2.out
        obtain ⟨b0, b1, b2, b3, b4, b5, b6, b7, b8, b9⟩ := acc_th HA2.out
        obtain ⟨lv, v0, v1, v2, _, _, _⟩ := val_in HV2.out
        obtain ⟨lz, z0, z1, z2, z3, z4, z5, z6, z7, z8, z9⟩ := acc_in HZ2.out
        obtain ⟨y0, y1, y2, y3, y4, y5, y6, y7, y8, y9⟩ := acc_th HZ2.out
        go_wp2
        have bz : Blok ((((((w2.setCell ⟨ga, 4, none⟩ (.int .u64 (H (z + i)))).setCell ⟨ga, 5, none⟩ (.int .u64 (L (z + i)))).setCell ⟨ga, 6, none⟩ (.int .i64 ((zn : Int) + 1))).setCell ⟨ga, 7, none⟩ (.int .i64 1)).setCell ⟨ga, 8, none⟩ (.int .i64 i)).setCell ⟨ga, 9, none⟩ (.string s)) (ga + 1 + 1) 58 #[.int .i64 0, .int .i64 0, .int .i64 0, .bool false, .int .u64 0, .int .u64 0, .int .i64 0, .int .i64 0, .int .i64 0, .string ⟨#[]⟩] := by
          repeat (first | with_reducible exact HZ2.out | refine Blok.far ?_ (by simp <;> omega) _)
        have bg : Grew w ((((((w2.setCell ⟨ga, 4, none⟩ (.int .u64 (H (z + i)))).setCell ⟨ga, 5, none⟩ (.int .u64 (L (z + i)))).setCell ⟨ga, 6, none⟩ (.int .i64 ((zn : Int) + 1))).setCell ⟨ga, 7, none⟩ (.int .i64 1)).setCell ⟨ga, 8, none⟩ (.int .i64 i)).setCell ⟨ga, 9, none⟩ (.string s)) := by
          repeat (first | with_reducible exact HG2.out | refine Grew.setCell ?_ (by rw [HGA.out]; exact Nat.le_refl _) _)
        have hb := acc_set bz (.int .i64 op) (.int .i64 ((rows : Int) + 1)) (.int .i64 1) (.bool wrong) (.int .u64 (H (z + i))) (.int .u64 (L (z + i))) (.int .i64 ((zn : Int) + 1)) (.int .i64 1) (.int .i64 i) (.string s)
        obtain ⟨_, r0, r1, r2, r3, r4, r5, r6, r7, r8, r9⟩ := acc_in hb
        exact bodyPost_ret (v := .agg #[.int .i64 op, .int .i64 ((rows : Int) + 1), .int .i64 1, .bool wrong, .int .u64 (H (z + i)), .int .u64 (L (z + i)), .int .i64 ((zn : Int) + 1), .int .i64 1, .int .i64 i, .string s]) (by simp [results, Try.results36, go_sem, r0, r1, r2, r3, r4, r5, r6, r7, r8, r9]) rfl ⟨rfl, grew_set10 bg (by rw [HGA.out]; omega) _ _ _ _ _ _ _ _ _ _⟩
      · have c3 : ((whole : Int) + 1 == 1) = false := by simp at c1 ⊢; omega
        unfold Gives
        go_enter Try.func36, Try.ntmps36
        go_wp2_with fail
        refine (HNu.out _).grows.mono ?_
        rintro e w1 ⟨rfl, hg1⟩
        have HG1 : Hid (Grew w w1) := Lib.hid (((((Grew.refl w).alloc _).alloc _).alloc _).trans hg1)
        have HA1 : Hid (Blok w1 w.heap.size 58 #[.int .i64 op, .int .i64 ((rows : Int) + 1), .int .i64 whole, .bool wrong, .int .u64 (H z), .int .u64 (L z), .int .i64 zn, .int .i64 bk, .int .i64 bi, .string bs]) := Lib.hid ((((Blok.new _ _ _ _ rfl).alloc _).alloc _).grew hg1)
        have HV1 : Hid (Blok w1 (w.heap.size + 1) 23 #[.int .i64 1, .int .i64 i, .string s]) := Lib.hid (((Blok.new _ _ _ _ (by simp)).alloc _).grew hg1)
        have HZ1 : Hid (Blok w1 (w.heap.size + 1 + 1) 58 #[.int .i64 0, .int .i64 0, .int .i64 0, .bool false, .int .u64 0, .int .u64 0, .int .i64 0, .int .i64 0, .int .i64 0, .string ⟨#[]⟩]) := Lib.hid ((Blok.new _ _ _ _ (by simp)).grew hg1)
        clear hg1 HNu
        generalize hga : w.heap.size = ga at *
        have HGA := Lib.hid hga
        clear hga
        obtain ⟨la, a0, a1, a2, a3, a4, a5, a6, a7, a8, a9⟩ := acc_in HA1.out
        obtain ⟨b0, b1, b2, b3, b4, b5, b6, b7, b8, b9⟩ := acc_th HA1.out
        obtain ⟨lv, v0, v1, v2, _, _, _⟩ := val_in HV1.out
        obtain ⟨lz, z0, z1, z2, z3, z4, z5, z6, z7, z8, z9⟩ := acc_in HZ1.out
        obtain ⟨y0, y1, y2, y3, y4, y5, y6, y7, y8, y9⟩ := acc_th HZ1.out
        go_wp2_with fail
        refine (HPl.out _).grows.mono ?_
        rintro e w2 ⟨rfl, hg⟩
        have ba : Blok (w1.setCell ⟨ga, 2, none⟩ (.int .i64 ((whole : Int) + 1))) ga 58 #[.int .i64 op, .int .i64 ((rows : Int) + 1), .int .i64 ((whole : Int) + 1), .bool wrong, .int .u64 (H z), .int .u64 (L z), .int .i64 zn, .int .i64 bk, .int .i64 bi, .string bs] := by
          have := (HA1.out.set 2 (.int .i64 ((whole : Int) + 1)))
          simpa using this
        have bv : Blok (w1.setCell ⟨ga, 2, none⟩ (.int .i64 ((whole : Int) + 1))) (ga + 1) 23 #[.int .i64 1, .int .i64 i, .string s] := by
          repeat (first | with_reducible exact HV1.out | refine Blok.far ?_ (by simp) _)
        have bz : Blok (w1.setCell ⟨ga, 2, none⟩ (.int .i64 ((whole : Int) + 1))) (ga + 1 + 1) 58 #[.int .i64 0, .int .i64 0, .int .i64 0, .bool false, .int .u64 0, .int .u64 0, .int .i64 0, .int .i64 0, .int .i64 0, .string ⟨#[]⟩] := by
          repeat (first | with_reducible exact HZ1.out | refine Blok.far ?_ (by simp <;> omega) _)
        have bg : Grew w (w1.setCell ⟨ga, 2, none⟩ (.int .i64 ((whole : Int) + 1))) := by
          repeat (first | with_reducible exact HG1.out | refine Grew.setCell ?_ (by rw [HGA.out]; exact Nat.le_refl _) _)
        have HA2 := Lib.hid (ba.grew hg)
        have HV2 := Lib.hid (bv.grew hg)
        have HZ2 := Lib.hid (bz.grew hg)
        have HG2 := Lib.hid (bg.trans hg)
        clear hg ba bv bz bg HA1 HV1 HZ1 HG1
        clear la a0 a1 a2 a3 a4 a5 a6 a7 a8 a9 b0 b1 b2 b3 b4 b5 b6 b7 b8 b9 lv v0 v1 v2 lz z0 z1 z2 z3 z4 z5 z6 z7 z8 z9 y0 y1 y2 y3 y4 y5 y6 y7 y8 y9
        obtain ⟨la, a0, a1, a2, a3, a4, a5, a6, a7, a8, a9⟩ := acc_in HA2.out
        obtain ⟨b0, b1, b2, b3, b4, b5, b6, b7, b8, b9⟩ := acc_th HA2.out
        obtain ⟨lv, v0, v1, v2, _, _, _⟩ := val_in HV2.out
        obtain ⟨lz, z0, z1, z2, z3, z4, z5, z6, z7, z8, z9⟩ := acc_in HZ2.out
        obtain ⟨y0, y1, y2, y3, y4, y5, y6, y7, y8, y9⟩ := acc_th HZ2.out
        go_wp2_with fail
        refine (HBT.out _).grows.mono ?_
        rintro e w3 ⟨rfl, hg⟩
        have ba : Blok (((w2.setCell ⟨ga, 4, none⟩ (.int .u64 (H (z + i)))).setCell ⟨ga, 5, none⟩ (.int .u64 (L (z + i)))).setCell ⟨ga, 6, none⟩ (.int .i64 ((zn : Int) + 1))) ga 58 #[.int .i64 op, .int .i64 ((rows : Int) + 1), .int .i64 ((whole : Int) + 1), .bool wrong, .int .u64 (H (z + i)), .int .u64 (L (z + i)), .int .i64 ((zn : Int) + 1), .int .i64 bk, .int .i64 bi, .string bs] := by
          have := (((HA2.out.set 4 (.int .u64 (H (z + i)))).set 5 (.int .u64 (L (z + i)))).set 6 (.int .i64 ((zn : Int) + 1)))
          simpa using this
        have bv : Blok (((w2.setCell ⟨ga, 4, none⟩ (.int .u64 (H (z + i)))).setCell ⟨ga, 5, none⟩ (.int .u64 (L (z + i)))).setCell ⟨ga, 6, none⟩ (.int .i64 ((zn : Int) + 1))) (ga + 1) 23 #[.int .i64 1, .int .i64 i, .string s] := by
          repeat (first | with_reducible exact HV2.out | refine Blok.far ?_ (by simp) _)
        have bz : Blok (((w2.setCell ⟨ga, 4, none⟩ (.int .u64 (H (z + i)))).setCell ⟨ga, 5, none⟩ (.int .u64 (L (z + i)))).setCell ⟨ga, 6, none⟩ (.int .i64 ((zn : Int) + 1))) (ga + 1 + 1) 58 #[.int .i64 0, .int .i64 0, .int .i64 0, .bool false, .int .u64 0, .int .u64 0, .int .i64 0, .int .i64 0, .int .i64 0, .string ⟨#[]⟩] := by
          repeat (first | with_reducible exact HZ2.out | refine Blok.far ?_ (by simp <;> omega) _)
        have bg : Grew w (((w2.setCell ⟨ga, 4, none⟩ (.int .u64 (H (z + i)))).setCell ⟨ga, 5, none⟩ (.int .u64 (L (z + i)))).setCell ⟨ga, 6, none⟩ (.int .i64 ((zn : Int) + 1))) := by
          repeat (first | with_reducible exact HG2.out | refine Grew.setCell ?_ (by rw [HGA.out]; exact Nat.le_refl _) _)
        have HA3 := Lib.hid (ba.grew hg)
        have HV3 := Lib.hid (bv.grew hg)
        have HZ3 := Lib.hid (bz.grew hg)
        have HG3 := Lib.hid (bg.trans hg)
        clear hg ba bv bz bg HA2 HV2 HZ2 HG2
        clear la a0 a1 a2 a3 a4 a5 a6 a7 a8 a9 b0 b1 b2 b3 b4 b5 b6 b7 b8 b9 lv v0 v1 v2 lz z0 z1 z2 z3 z4 z5 z6 z7 z8 z9 y0 y1 y2 y3 y4 y5 y6 y7 y8 y9
        obtain ⟨la, a0, a1, a2, a3, a4, a5, a6, a7, a8, a9⟩ := acc_in HA3.out
        obtain ⟨b0, b1, b2, b3, b4, b5, b6, b7, b8, b9⟩ := acc_th HA3.out
        obtain ⟨lv, v0, v1, v2, _, _, _⟩ := val_in HV3.out
        obtain ⟨lz, z0, z1, z2, z3, z4, z5, z6, z7, z8, z9⟩ := acc_in HZ3.out
        obtain ⟨y0, y1, y2, y3, y4, y5, y6, y7, y8, y9⟩ := acc_th HZ3.out
        go_wp2
        have bz : Blok (((w3.setCell ⟨ga, 7, none⟩ (.int .i64 1)).setCell ⟨ga, 8, none⟩ (.int .i64 i)).setCell ⟨ga, 9, none⟩ (.string s)) (ga + 1 + 1) 58 #[.int .i64 0, .int .i64 0, .int .i64 0, .bool false, .int .u64 0, .int .u64 0, .int .i64 0, .int .i64 0, .int .i64 0, .string ⟨#[]⟩] := by
          repeat (first | with_reducible exact HZ3.out | refine Blok.far ?_ (by simp <;> omega) _)
        have bg : Grew w (((w3.setCell ⟨ga, 7, none⟩ (.int .i64 1)).setCell ⟨ga, 8, none⟩ (.int .i64 i)).setCell ⟨ga, 9, none⟩ (.string s)) := by
          repeat (first | with_reducible exact HG3.out | refine Grew.setCell ?_ (by rw [HGA.out]; exact Nat.le_refl _) _)
        have hb := acc_set bz (.int .i64 op) (.int .i64 ((rows : Int) + 1)) (.int .i64 ((whole : Int) + 1)) (.bool wrong) (.int .u64 (H (z + i))) (.int .u64 (L (z + i))) (.int .i64 ((zn : Int) + 1)) (.int .i64 1) (.int .i64 i) (.string s)
        obtain ⟨_, r0, r1, r2, r3, r4, r5, r6, r7, r8, r9⟩ := acc_in hb
        exact bodyPost_ret (v := .agg #[.int .i64 op, .int .i64 ((rows : Int) + 1), .int .i64 ((whole : Int) + 1), .bool wrong, .int .u64 (H (z + i)), .int .u64 (L (z + i)), .int .i64 ((zn : Int) + 1), .int .i64 1, .int .i64 i, .string s]) (by simp [results, Try.results36, go_sem, r0, r1, r2, r3, r4, r5, r6, r7, r8, r9]) rfl ⟨rfl, grew_set10 bg (by rw [HGA.out]; omega) _ _ _ _ _ _ _ _ _ _⟩
      · have c3 : ((whole : Int) + 1 == 1) = false := by simp at c1 ⊢; omega
        unfold Gives
        go_enter Try.func36, Try.ntmps36
        go_wp2_with fail
        refine (HNu.out _).grows.mono ?_
        rintro e w1 ⟨rfl, hg1⟩
        have HG1 : Hid (Grew w w1) := Lib.hid (((((Grew.refl w).alloc _).alloc _).alloc _).trans hg1)
        have HA1 : Hid (Blok w1 w.heap.size 58 #[.int .i64 op, .int .i64 ((rows : Int) + 1), .int .i64 whole, .bool wrong, .int .u64 (H z), .int .u64 (L z), .int .i64 zn, .int .i64 bk, .int .i64 bi, .string bs]) := Lib.hid ((((Blok.new _ _ _ _ rfl).alloc _).alloc _).grew hg1)
        have HV1 : Hid (Blok w1 (w.heap.size + 1) 23 #[.int .i64 1, .int .i64 i, .string s]) := Lib.hid (((Blok.new _ _ _ _ (by simp)).alloc _).grew hg1)
        have HZ1 : Hid (Blok w1 (w.heap.size + 1 + 1) 58 #[.int .i64 0, .int .i64 0, .int .i64 0, .bool false, .int .u64 0, .int .u64 0, .int .i64 0, .int .i64 0, .int .i64 0, .string ⟨#[]⟩]) := Lib.hid ((Blok.new _ _ _ _ (by simp)).grew hg1)
        clear hg1 HNu
        generalize hga : w.heap.size = ga at *
        have HGA := Lib.hid hga
        clear hga
        obtain ⟨la, a0, a1, a2, a3, a4, a5, a6, a7, a8, a9⟩ := acc_in HA1.out
        obtain ⟨b0, b1, b2, b3, b4, b5, b6, b7, b8, b9⟩ := acc_th HA1.out
        obtain ⟨lv, v0, v1, v2, _, _, _⟩ := val_in HV1.out
        obtain ⟨lz, z0, z1, z2, z3, z4, z5, z6, z7, z8, z9⟩ := acc_in HZ1.out
        obtain ⟨y0, y1, y2, y3, y4, y5, y6, y7, y8, y9⟩ := acc_th HZ1.out
        go_wp2_with fail
        refine (HPl.out _).grows.mono ?_
        rintro e w2 ⟨rfl, hg⟩
        have ba : Blok (w1.setCell ⟨ga, 2, none⟩ (.int .i64 ((whole : Int) + 1))) ga 58 #[.int .i64 op, .int .i64 ((rows : Int) + 1), .int .i64 ((whole : Int) + 1), .bool wrong, .int .u64 (H z), .int .u64 (L z), .int .i64 zn, .int .i64 bk, .int .i64 bi, .string bs] := by
          have := (HA1.out.set 2 (.int .i64 ((whole : Int) + 1)))
          simpa using this
        have bv : Blok (w1.setCell ⟨ga, 2, none⟩ (.int .i64 ((whole : Int) + 1))) (ga + 1) 23 #[.int .i64 1, .int .i64 i, .string s] := by
          repeat (first | with_reducible exact HV1.out | refine Blok.far ?_ (by simp) _)
        have bz : Blok (w1.setCell ⟨ga, 2, none⟩ (.int .i64 ((whole : Int) + 1))) (ga + 1 + 1) 58 #[.int .i64 0, .int .i64 0, .int .i64 0, .bool false, .int .u64 0, .int .u64 0, .int .i64 0, .int .i64 0, .int .i64 0, .string ⟨#[]⟩] := by
          repeat (first | with_reducible exact HZ1.out | refine Blok.far ?_ (by simp <;> omega) _)
        have bg : Grew w (w1.setCell ⟨ga, 2, none⟩ (.int .i64 ((whole : Int) + 1))) := by
          repeat (first | with_reducible exact HG1.out | refine Grew.setCell ?_ (by rw [HGA.out]; exact Nat.le_refl _) _)
        have HA2 := Lib.hid (ba.grew hg)
        have HV2 := Lib.hid (bv.grew hg)
        have HZ2 := Lib.hid (bz.grew hg)
        have HG2 := Lib.hid (bg.trans hg)
        clear hg ba bv bz bg HA1 HV1 HZ1 HG1
        clear la a0 a1 a2 a3 a4 a5 a6 a7 a8 a9 b0 b1 b2 b3 b4 b5 b6 b7 b8 b9 lv v0 v1 v2 lz z0 z1 z2 z3 z4 z5 z6 z7 z8 z9 y0 y1 y2 y3 y4 y5 y6 y7 y8 y9
        obtain ⟨la, a0, a1, a2, a3, a4, a5, a6, a7, a8, a9⟩ := acc_in HA2.out
        obtain ⟨b0, b1, b2, b3, b4, b5, b6, b7, b8, b9⟩ := acc_th HA2.out
        obtain ⟨lv, v0, v1, v2, _, _, _⟩ := val_in HV2.out
        obtain ⟨lz, z0, z1, z2, z3, z4, z5, z6, z7, z8, z9⟩ := acc_in HZ2.out
        obtain ⟨y0, y1, y2, y3, y4, y5, y6, y7, y8, y9⟩ := acc_th HZ2.out
        go_wp2_with fail
        refine (HBT.out _).grows.mono ?_
        rintro e w3 ⟨rfl, hg⟩
        have ba : Blok (((w2.setCell ⟨ga, 4, none⟩ (.int .u64 (H (z + i)))).setCell ⟨ga, 5, none⟩ (.int .u64 (L (z + i)))).setCell ⟨ga, 6, none⟩ (.int .i64 ((zn : Int) + 1))) ga 58 #[.int .i64 op, .int .i64 ((rows : Int) + 1), .int .i64 ((whole : Int) + 1), .bool wrong, .int .u64 (H (z + i)), .int .u64 (L (z + i)), .int .i64 ((zn : Int) + 1), .int .i64 bk, .int .i64 bi, .string bs] := by
          have := (((HA2.out.set 4 (.int .u64 (H (z + i)))).set 5 (.int .u64 (L (z + i)))).set 6 (.int .i64 ((zn : Int) + 1)))
          simpa using this
        have bv : Blok (((w2.setCell ⟨ga, 4, none⟩ (.int .u64 (H (z + i)))).setCell ⟨ga, 5, none⟩ (.int .u64 (L (z + i)))).setCell ⟨ga, 6, none⟩ (.int .i64 ((zn : Int) + 1))) (ga + 1) 23 #[.int .i64 1, .int .i64 i, .string s] := by
          repeat (first | with_reducible exact HV2.out | refine Blok.far ?_ (by simp) _)
        have bz : Blok (((w2.setCell ⟨ga, 4, none⟩ (.int .u64 (H (z + i)))).setCell ⟨ga, 5, none⟩ (.int .u64 (L (z + i)))).setCell ⟨ga, 6, none⟩ (.int .i64 ((zn : Int) + 1))) (ga + 1 + 1) 58 #[.int .i64 0, .int .i64 0, .int .i64 0, .bool false, .int .u64 0, .int .u64 0, .int .i64 0, .int .i64 0, .int .i64 0, .string ⟨#[]⟩] := by
          repeat (first | with_reducible exact HZ2.out | refine Blok.far ?_ (by simp <;> omega) _)
        have bg : Grew w (((w2.setCell ⟨ga, 4, none⟩ (.int .u64 (H (z + i)))).setCell ⟨ga, 5, none⟩ (.int .u64 (L (z + i)))).setCell ⟨ga, 6, none⟩ (.int .i64 ((zn : Int) + 1))) := by
          repeat (first | with_reducible exact HG2.out | refine Grew.setCell ?_ (by rw [HGA.out]; exact Nat.le_refl _) _)
        have HA3 := Lib.hid (ba.grew hg)
        have HV3 := Lib.hid (bv.grew hg)
        have HZ3 := Lib.hid (bz.grew hg)
        have HG3 := Lib.hid (bg.trans hg)
        clear hg ba bv bz bg HA2 HV2 HZ2 HG2
        clear la a0 a1 a2 a3 a4 a5 a6 a7 a8 a9 b0 b1 b2 b3 b4 b5 b6 b7 b8 b9 lv v0 v1 v2 lz z0 z1 z2 z3 z4 z5 z6 z7 z8 z9 y0 y1 y2 y3 y4 y5 y6 y7 y8 y9
        obtain ⟨la, a0, a1, a2, a3, a4, a5, a6, a7, a8, a9⟩ := acc_in HA3.out
        obtain ⟨b0, b1, b2, b3, b4, b5, b6, b7, b8, b9⟩ := acc_th HA3.out
        obtain ⟨lv, v0, v1, v2, _, _, _⟩ := val_in HV3.out
        obtain ⟨lz, z0, z1, z2, z3, z4, z5, z6, z7, z8, z9⟩ := acc_in HZ3.out
        obtain ⟨y0, y1, y2, y3, y4, y5, y6, y7, y8, y9⟩ := acc_th HZ3.out
        go_wp2
        have bz : Blok w3 (ga + 1 + 1) 58 #[.int .i64 0, .int .i64 0, .int .i64 0, .bool false, .int .u64 0, .int .u64 0, .int .i64 0, .int .i64 0, .int .i64 0, .string ⟨#[]⟩] := by
          repeat (first | with_reducible exact HZ3.out | refine Blok.far ?_ (by simp <;> omega) _)
        have bg : Grew w w3 := by
          repeat (first | with_reducible exact HG3.out | refine Grew.setCell ?_ (by rw [HGA.out]; exact Nat.le_refl _) _)
        have hb := acc_set bz (.int .i64 op) (.int .i64 ((rows : Int) + 1)) (.int .i64 ((whole : Int) + 1)) (.bool wrong) (.int .u64 (H (z + i))) (.int .u64 (L (z + i))) (.int .i64 ((zn : Int) + 1)) (.int .i64 bk) (.int .i64 bi) (.string bs)
        obtain ⟨_, r0, r1, r2, r3, r4, r5, r6, r7, r8, r9⟩ := acc_in hb
        exact bodyPost_ret (v := .agg #[.int .i64 op, .int .i64 ((rows : Int) + 1), .int .i64 ((whole : Int) + 1), .bool wrong, .int .u64 (H (z + i)), .int .u64 (L (z + i)), .int .i64 ((zn : Int) + 1), .int .i64 bk, .int .i64 bi, .string bs]) (by simp [results, Try.results36, go_sem, r0, r1, r2, r3, r4, r5, r6, r7, r8, r9]) rfl ⟨rfl, grew_set10 bg (by rw [HGA.out]; omega) _ _ _ _ _ _ _ _ _ _⟩
    · rw [if_neg h1, if_neg h1, if_neg h1]
      have hk1 : (k == 1) = false := by simpa using h1
      clear h1
      rcases hcase with ⟨c1, rfl⟩ | ⟨c1, rfl, rfl⟩ | ⟨c1, rfl, rfl⟩
      · subst c1
        push_cast at *
        unfold Gives
        go_enter Try.func36, Try.ntmps36
        go_wp2_with fail
        refine (HNu.out _).grows.mono ?_
        rintro e w1 ⟨rfl, hg1⟩
        have HG1 : Hid (Grew w w1) := Lib.hid (((((Grew.refl w).alloc _).alloc _).alloc _).trans hg1)
        have HA1 : Hid (Blok w1 w.heap.size 58 #[.int .i64 op, .int .i64 ((rows : Int) + 1), .int .i64 0, .bool wrong, .int .u64 (H z), .int .u64 (L z), .int .i64 zn, .int .i64 bk, .int .i64 bi, .string bs]) := Lib.hid ((((Blok.new _ _ _ _ rfl).alloc _).alloc _).grew hg1)
        have HV1 : Hid (Blok w1 (w.heap.size + 1) 23 #[.int .i64 k, .int .i64 i, .string s]) := Lib.hid (((Blok.new _ _ _ _ (by simp)).alloc _).grew hg1)
        have HZ1 : Hid (Blok w1 (w.heap.size + 1 + 1) 58 #[.int .i64 0, .int .i64 0, .int .i64 0, .bool false, .int .u64 0, .int .u64 0, .int .i64 0, .int .i64 0, .int .i64 0, .string ⟨#[]⟩]) := Lib.hid ((Blok.new _ _ _ _ (by simp)).grew hg1)
        clear hg1 HNu
        generalize hga : w.heap.size = ga at *
        have HGA := Lib.hid hga
        clear hga
        obtain ⟨la, a0, a1, a2, a3, a4, a5, a6, a7, a8, a9⟩ := acc_in HA1.out
        obtain ⟨b0, b1, b2, b3, b4, b5, b6, b7, b8, b9⟩ := acc_th HA1.out
        obtain ⟨lv, v0, v1, v2, _, _, _⟩ := val_in HV1.out
        obtain ⟨lz, z0, z1, z2, z3, z4, z5, z6, z7, z8, z9⟩ := acc_in HZ1.out
        obtain ⟨y0, y1, y2, y3, y4, y5, y6, y7, y8, y9⟩ := acc_th HZ1.out
        go_wp2
        have bz : Blok (((((w1.setCell ⟨ga, 2, none⟩ (.int .i64 1)).setCell ⟨ga, 3, none⟩ (.bool true)).setCell ⟨ga, 7, none⟩ (.int .i64 k)).setCell ⟨ga, 8, none⟩ (.int .i64 i)).setCell ⟨ga, 9, none⟩ (.string s)) (ga + 1 + 1) 58 #[.int .i64 0, .int .i64 0, .int .i64 0, .bool false, .int .u64 0, .int .u64 0, .int .i64 0, .int .i64 0, .int .i64 0, .string ⟨#[]⟩] := by
          repeat (first | with_reducible exact HZ1.out | refine Blok.far ?_ (by simp <;> omega) _)
        have bg : Grew w (((((w1.setCell ⟨ga, 2, none⟩ (.int .i64 1)).setCell ⟨ga, 3, none⟩ (.bool true)).setCell ⟨ga, 7, none⟩ (.int .i64 k)).setCell ⟨ga, 8, none⟩ (.int .i64 i)).setCell ⟨ga, 9, none⟩ (.string s)) := by
          repeat (first | with_reducible exact HG1.out | refine Grew.setCell ?_ (by rw [HGA.out]; exact Nat.le_refl _) _)
        have hb := acc_set bz (.int .i64 op) (.int .i64 ((rows : Int) + 1)) (.int .i64 1) (.bool true) (.int .u64 (H z)) (.int .u64 (L z)) (.int .i64 zn) (.int .i64 k) (.int .i64 i) (.string s)
        obtain ⟨_, r0, r1, r2, r3, r4, r5, r6, r7, r8, r9⟩ := acc_in hb
        exact bodyPost_ret (v := .agg #[.int .i64 op, .int .i64 ((rows : Int) + 1), .int .i64 1, .bool true, .int .u64 (H z), .int .u64 (L z), .int .i64 zn, .int .i64 k, .int .i64 i, .string s]) (by simp [results, Try.results36, go_sem, r0, r1, r2, r3, r4, r5, r6, r7, r8, r9]) rfl ⟨rfl, grew_set10 bg (by rw [HGA.out]; omega) _ _ _ _ _ _ _ _ _ _⟩
      · have c3 : ((whole : Int) + 1 == 1) = false := by simp at c1 ⊢; omega
        unfold Gives
        go_enter Try.func36, Try.ntmps36
        go_wp2_with fail
        refine (HNu.out _).grows.mono ?_
        rintro e w1 ⟨rfl, hg1⟩
        have HG1 : Hid (Grew w w1) := Lib.hid (((((Grew.refl w).alloc _).alloc _).alloc _).trans hg1)
        have HA1 : Hid (Blok w1 w.heap.size 58 #[.int .i64 op, .int .i64 ((rows : Int) + 1), .int .i64 whole, .bool wrong, .int .u64 (H z), .int .u64 (L z), .int .i64 zn, .int .i64 bk, .int .i64 bi, .string bs]) := Lib.hid ((((Blok.new _ _ _ _ rfl).alloc _).alloc _).grew hg1)
        have HV1 : Hid (Blok w1 (w.heap.size + 1) 23 #[.int .i64 k, .int .i64 i, .string s]) := Lib.hid (((Blok.new _ _ _ _ (by simp)).alloc _).grew hg1)
        have HZ1 : Hid (Blok w1 (w.heap.size + 1 + 1) 58 #[.int .i64 0, .int .i64 0, .int .i64 0, .bool false, .int .u64 0, .int .u64 0, .int .i64 0, .int .i64 0, .int .i64 0, .string ⟨#[]⟩]) := Lib.hid ((Blok.new _ _ _ _ (by simp)).grew hg1)
        clear hg1 HNu
        generalize hga : w.heap.size = ga at *
        have HGA := Lib.hid hga
        clear hga
        obtain ⟨la, a0, a1, a2, a3, a4, a5, a6, a7, a8, a9⟩ := acc_in HA1.out
        obtain ⟨b0, b1, b2, b3, b4, b5, b6, b7, b8, b9⟩ := acc_th HA1.out
        obtain ⟨lv, v0, v1, v2, _, _, _⟩ := val_in HV1.out
        obtain ⟨lz, z0, z1, z2, z3, z4, z5, z6, z7, z8, z9⟩ := acc_in HZ1.out
        obtain ⟨y0, y1, y2, y3, y4, y5, y6, y7, y8, y9⟩ := acc_th HZ1.out
        go_wp2_with fail
        refine (HBT.out _).grows.mono ?_
        rintro e w2 ⟨rfl, hg⟩
        have ba : Blok ((w1.setCell ⟨ga, 2, none⟩ (.int .i64 ((whole : Int) + 1))).setCell ⟨ga, 3, none⟩ (.bool true)) ga 58 #[.int .i64 op, .int .i64 ((rows : Int) + 1), .int .i64 ((whole : Int) + 1), .bool true, .int .u64 (H z), .int .u64 (L z), .int .i64 zn, .int .i64 bk, .int .i64 bi, .string bs] := by
          have := ((HA1.out.set 2 (.int .i64 ((whole : Int) + 1))).set 3 (.bool true))
          simpa using this
        have bv : Blok ((w1.setCell ⟨ga, 2, none⟩ (.int .i64 ((whole : Int) + 1))).setCell ⟨ga, 3, none⟩ (.bool true)) (ga + 1) 23 #[.int .i64 k, .int .i64 i, .string s] := by
          repeat (first | with_reducible exact HV1.out | refine Blok.far ?_ (by simp) _)
        have bz : Blok ((w1.setCell ⟨ga, 2, none⟩ (.int .i64 ((whole : Int) + 1))).setCell ⟨ga, 3, none⟩ (.bool true)) (ga + 1 + 1) 58 #[.int .i64 0, .int .i64 0, .int .i64 0, .bool false, .int .u64 0, .int .u64 0, .int .i64 0, .int .i64 0, .int .i64 0, .string ⟨#[]⟩] := by
          repeat (first | with_reducible exact HZ1.out | refine Blok.far ?_ (by simp <;> omega) _)
        have bg : Grew w ((w1.setCell ⟨ga, 2, none⟩ (.int .i64 ((whole : Int) + 1))).setCell ⟨ga, 3, none⟩ (.bool true)) := by
          repeat (first | with_reducible exact HG1.out | refine Grew.setCell ?_ (by rw [HGA.out]; exact Nat.le_refl _) _)
        have HA2 := Lib.hid (ba.grew hg)
        have HV2 := Lib.hid (bv.grew hg)
        have HZ2 := Lib.hid (bz.grew hg)
        have HG2 := Lib.hid (bg.trans hg)
        clear hg ba bv bz bg HA1 HV1 HZ1 HG1
        clear la a0 a1 a2 a3 a4 a5 a6 a7 a8 a9 b0 b1 b2 b3 b4 b5 b6 b7 b8 b9 lv v0 v1 v2 lz z0 z1 z2 z3 z4 z5 z6 z7 z8 z9 y0 y1 y2 y3 y4 y5 y6 y7 y8 y9
        obtain ⟨la, a0, a1, a2, a3, a4, a5, a6, a7, a8, a9⟩ := acc_in HA2.out
        obtain ⟨b0, b1, b2, b3, b4, b5, b6, b7, b8, b9⟩ := acc_th HA2.out
        obtain ⟨lv, v0, v1, v2, _, _, _⟩ := val_in HV2.out
        obtain ⟨lz, z0, z1, z2, z3, z4, z5, z6, z7, z8, z9⟩ := acc_in HZ2.out
        obtain ⟨y0, y1, y2, y3, y4, y5, y6, y7, y8, y9⟩ := acc_th HZ2.out
        go_wp2
        have bz : Blok (((w2.setCell ⟨ga, 7, none⟩ (.int .i64 k)).setCell ⟨ga, 8, none⟩ (.int .i64 i)).setCell ⟨ga, 9, none⟩ (.string s)) (ga + 1 + 1) 58 #[.int .i64 0, .int .i64 0, .int .i64 0, .bool false, .int .u64 0, .int .u64 0, .int .i64 0, .int .i64 0, .int .i64 0, .string ⟨#[]⟩] := by
          repeat (first | with_reducible exact HZ2.out | refine Blok.far ?_ (by simp <;> omega) _)
        have bg : Grew w (((w2.setCell ⟨ga, 7, none⟩ (.int .i64 k)).setCell ⟨ga, 8, none⟩ (.int .i64 i)).setCell ⟨ga, 9, none⟩ (.string s)) := by
          repeat (first | with_reducible exact HG2.out | refine Grew.setCell ?_ (by rw [HGA.out]; exact Nat.le_refl _) _)
        have hb := acc_set bz (.int .i64 op) (.int .i64 ((rows : Int) + 1)) (.int .i64 ((whole : Int) + 1)) (.bool true) (.int .u64 (H z)) (.int .u64 (L z)) (.int .i64 zn) (.int .i64 k) (.int .i64 i) (.string s)
        obtain ⟨_, r0, r1, r2, r3, r4, r5, r6, r7, r8, r9⟩ := acc_in hb
        exact bodyPost_ret (v := .agg #[.int .i64 op, .int .i64 ((rows : Int) + 1), .int .i64 ((whole : Int) + 1), .bool true, .int .u64 (H z), .int .u64 (L z), .int .i64 zn, .int .i64 k, .int .i64 i, .string s]) (by simp [results, Try.results36, go_sem, r0, r1, r2, r3, r4, r5, r6, r7, r8, r9]) rfl ⟨rfl, grew_set10 bg (by rw [HGA.out]; omega) _ _ _ _ _ _ _ _ _ _⟩
      · have c3 : ((whole : Int) + 1 == 1) = false := by simp at c1 ⊢; omega
        unfold Gives
        go_enter Try.func36, Try.ntmps36
        go_wp2_with fail
        refine (HNu.out _).grows.mono ?_
        rintro e w1 ⟨rfl, hg1⟩
        have HG1 : Hid (Grew w w1) := Lib.hid (((((Grew.refl w).alloc _).alloc _).alloc _).trans hg1)
        have HA1 : Hid (Blok w1 w.heap.size 58 #[.int .i64 op, .int .i64 ((rows : Int) + 1), .int .i64 whole, .bool wrong, .int .u64 (H z), .int .u64 (L z), .int .i64 zn, .int .i64 bk, .int .i64 bi, .string bs]) := Lib.hid ((((Blok.new _ _ _ _ rfl).alloc _).alloc _).grew hg1)
        have HV1 : Hid (Blok w1 (w.heap.size + 1) 23 #[.int .i64 k, .int .i64 i, .string s]) := Lib.hid (((Blok.new _ _ _ _ (by simp)).alloc _).grew hg1)
        have HZ1 : Hid (Blok w1 (w.heap.size + 1 + 1) 58 #[.int .i64 0, .int .i64 0, .int .i64 0, .bool false, .int .u64 0, .int .u64 0, .int .i64 0, .int .i64 0, .int .i64 0, .string ⟨#[]⟩]) := Lib.hid ((Blok.new _ _ _ _ (by simp)).grew hg1)
        clear hg1 HNu
        generalize hga : w.heap.size = ga at *
        have HGA := Lib.hid hga
        clear hga
        obtain ⟨la, a0, a1, a2, a3, a4, a5, a6, a7, a8, a9⟩ := acc_in HA1.out
        obtain ⟨b0, b1, b2, b3, b4, b5, b6, b7, b8, b9⟩ := acc_th HA1.out
        obtain ⟨lv, v0, v1, v2, _, _, _⟩ := val_in HV1.out
        obtain ⟨lz, z0, z1, z2, z3, z4, z5, z6, z7, z8, z9⟩ := acc_in HZ1.out
        obtain ⟨y0, y1, y2, y3, y4, y5, y6, y7, y8, y9⟩ := acc_th HZ1.out
        go_wp2_with fail
        refine (HBT.out _).grows.mono ?_
        rintro e w2 ⟨rfl, hg⟩
        have ba : Blok ((w1.setCell ⟨ga, 2, none⟩ (.int .i64 ((whole : Int) + 1))).setCell ⟨ga, 3, none⟩ (.bool true)) ga 58 #[.int .i64 op, .int .i64 ((rows : Int) + 1), .int .i64 ((whole : Int) + 1), .bool true, .int .u64 (H z), .int .u64 (L z), .int .i64 zn, .int .i64 bk, .int .i64 bi, .string bs] := by
          have := ((HA1.out.set 2 (.int .i64 ((whole : Int) + 1))).set 3 (.bool true))
          simpa using this
        have bv : Blok ((w1.setCell ⟨ga, 2, none⟩ (.int .i64 ((whole : Int) + 1))).setCell ⟨ga, 3, none⟩ (.bool true)) (ga + 1) 23 #[.int .i64 k, .int .i64 i, .string s] := by
          repeat (first | with_reducible exact HV1.out | refine Blok.far ?_ (by simp) _)
        have bz : Blok ((w1.setCell ⟨ga, 2, none⟩ (.int .i64 ((whole : Int) + 1))).setCell ⟨ga, 3, none⟩ (.bool true)) (ga + 1 + 1) 58 #[.int .i64 0, .int .i64 0, .int .i64 0, .bool false, .int .u64 0, .int .u64 0, .int .i64 0, .int .i64 0, .int .i64 0, .string ⟨#[]⟩] := by
          repeat (first | with_reducible exact HZ1.out | refine Blok.far ?_ (by simp <;> omega) _)
        have bg : Grew w ((w1.setCell ⟨ga, 2, none⟩ (.int .i64 ((whole : Int) + 1))).setCell ⟨ga, 3, none⟩ (.bool true)) := by
          repeat (first | with_reducible exact HG1.out | refine Grew.setCell ?_ (by rw [HGA.out]; exact Nat.le_refl _) _)
        have HA2 := Lib.hid (ba.grew hg)
        have HV2 := Lib.hid (bv.grew hg)
        have HZ2 := Lib.hid (bz.grew hg)
        have HG2 := Lib.hid (bg.trans hg)
        clear hg ba bv bz bg HA1 HV1 HZ1 HG1
        clear la a0 a1 a2 a3 a4 a5 a6 a7 a8 a9 b0 b1 b2 b3 b4 b5 b6 b7 b8 b9 lv v0 v1 v2 lz z0 z1 z2 z3 z4 z5 z6 z7 z8 z9 y0 y1 y2 y3 y4 y5 y6 y7 y8 y9
        obtain ⟨la, a0, a1, a2, a3, a4, a5, a6, a7, a8, a9⟩ := acc_in HA2.out
        obtain ⟨b0, b1, b2, b3, b4, b5, b6, b7, b8, b9⟩ := acc_th HA2.out
        obtain ⟨lv, v0, v1, v2, _, _, _⟩ := val_in HV2.out
        obtain ⟨lz, z0, z1, z2, z3, z4, z5, z6, z7, z8, z9⟩ := acc_in HZ2.out
        obtain ⟨y0, y1, y2, y3, y4, y5, y6, y7, y8, y9⟩ := acc_th HZ2.out
        go_wp2
        have bz : Blok w2 (ga + 1 + 1) 58 #[.int .i64 0, .int .i64 0, .int .i64 0, .bool false, .int .u64 0, .int .u64 0, .int .i64 0, .int .i64 0, .int .i64 0, .string ⟨#[]⟩] := by
          repeat (first | with_reducible exact HZ2.out | refine Blok.far ?_ (by simp <;> omega) _)
        have bg : Grew w w2 := by
          repeat (first | with_reducible exact HG2.out | refine Grew.setCell ?_ (by rw [HGA.out]; exact Nat.le_refl _) _)
        have hb := acc_set bz (.int .i64 op) (.int .i64 ((rows : Int) + 1)) (.int .i64 ((whole : Int) + 1)) (.bool true) (.int .u64 (H z)) (.int .u64 (L z)) (.int .i64 zn) (.int .i64 bk) (.int .i64 bi) (.string bs)
        obtain ⟨_, r0, r1, r2, r3, r4, r5, r6, r7, r8, r9⟩ := acc_in hb
        exact bodyPost_ret (v := .agg #[.int .i64 op, .int .i64 ((rows : Int) + 1), .int .i64 ((whole : Int) + 1), .bool true, .int .u64 (H z), .int .u64 (L z), .int .i64 zn, .int .i64 bk, .int .i64 bi, .string bs]) (by simp [results, Try.results36, go_sem, r0, r1, r2, r3, r4, r5, r6, r7, r8, r9]) rfl ⟨rfl, grew_set10 bg (by rw [HGA.out]; omega) _ _ _ _ _ _ _ _ _ _⟩
end Go.Proofs.Ytddambfniaiogaa
