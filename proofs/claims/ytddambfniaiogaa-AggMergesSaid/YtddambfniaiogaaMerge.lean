/- Layer 14: two states made one. Condition: counts within a hundred thousand. -/
import Derived.Test.YtddambfniaiogaaMerMath
import Derived.Test.YtddambfniaiogaaAgg3
namespace Go.Proofs.Ytddambfniaiogaa
open Go.RowKit
attribute [local go_sem] more_cell more_frozen more_more more_setCell more_of_drew more_of_drewN lt_more le_more past_cell past_cell2 past_frozen past_frozen2 past_setCell past_setCell2 mid_cell mid_frozen mid_setCell
attribute [local go_sem ↓] Go.wp_at_zero Go.wp_at_succ

set_option maxHeartbeats 8000000 in
set_option maxRecDepth 100000 in
theorem merge_any (a b : AccS) (h1 : a.rows ≤ 100000) (h2 : a.whole ≤ 100000) (h3 : a.zn ≤ 100000) (h4 : b.rows ≤ 100000) (h5 : b.whole ≤ 100000) (h6 : b.zn ≤ 100000) (w : World) : Gives Try.prog 38 #[accV a, accV b] w (accV (mergeS a b)) := by
  obtain ⟨op, ra, wa, ca, za, na, ak, ai, as_⟩ := a
  obtain ⟨op', rb, wb, cb, zb, nb, bk, bi, bs⟩ := b
  have HBT : Hid (∀ W, Gives Try.prog 107 #[.int .i64 op, vlV ⟨bk, bi, bs⟩, vlV ⟨ak, ai, as_⟩] W (.bool (betterB op ⟨bk, bi, bs⟩ ⟨ak, ai, as_⟩))) := Lib.hid fun W => better_any op _ _ W
  simp only at h1 h2 h3 h4 h5 h6
  have HJo : Hid (∀ W, Gives Try.prog 113 #[.agg #[.int .u64 (H za), .int .u64 (L za), .int .i64 na], .agg #[.int .u64 (H zb), .int .u64 (L zb), .int .i64 nb]] W (.agg #[.int .u64 (H (za + zb)), .int .u64 (L (za + zb)), .int .i64 (na + nb)])) := Lib.hid fun W => joinS_any za na zb nb (by omega) (by omega) (by omega) (by omega) W
  unfold mergeS accV vlV at *
  simp only at *
  generalize hbt : betterB op ⟨bk, bi, bs⟩ ⟨ak, ai, as_⟩ = bt at *
  clear hbt
  by_cases hop : op = op'
  rotate_left
  · rw [if_pos hop]
    have hop' : (op == op') = false := by simpa using hop
    clear hop HBT HJo
    unfold Gives
    go_enter Try.func38, Try.ntmps38
    go_wp2
    exact bodyPost_ret (v := .agg #[.int .i64 op, .int .i64 ra, .int .i64 wa, .bool ca, .int .u64 (H za), .int .u64 (L za), .int .i64 na, .int .i64 ak, .int .i64 ai, .string as_]) (by simp [results, Try.results38, go_sem]) rfl ⟨rfl, by (show Grew _ _; repeat (first | exact Grew.refl _ | refine Grew.alloc ?_ _ | refine Grew.drew ?_ | refine Grew.more ?_ _))⟩
  · subst hop
    rw [if_neg (by simp)]
    push_cast at *
    obtain ⟨b', hb'⟩ : ∃ b', (if wa = 0 ∨ (0 < wb ∧ bt = true) then (⟨bk, bi, bs⟩ : Vl) else ⟨ak, ai, as_⟩) = b' := ⟨_, rfl⟩
    rw [hb']
    have hcase : (((wa : Int) == 0) = true ∧ b' = ⟨bk, bi, bs⟩) ∨ (((wa : Int) == 0) = false ∧ wb = 0 ∧ b' = ⟨ak, ai, as_⟩) ∨ (((wa : Int) == 0) = false ∧ 0 < wb ∧ bt = true ∧ b' = ⟨bk, bi, bs⟩) ∨ (((wa : Int) == 0) = false ∧ 0 < wb ∧ bt = false ∧ b' = ⟨ak, ai, as_⟩) := by
      by_cases c1 : wa = 0
      · exact Or.inl ⟨by rw [c1]; rfl, by rw [← hb', if_pos (Or.inl c1)]⟩
      · have c2 : ((wa : Int) == 0) = false := by simpa using c1
        by_cases c3 : wb = 0
        · exact Or.inr (Or.inl ⟨c2, c3, by rw [← hb', if_neg (by rintro (h | ⟨h, _⟩); exact c1 h; omega)]⟩)
        · cases bt
          · exact Or.inr (Or.inr (Or.inr ⟨c2, by omega, rfl, by rw [← hb', if_neg (by rintro (h | ⟨_, h⟩); exact c1 h; cases h)]⟩))
          · exact Or.inr (Or.inr (Or.inl ⟨c2, by omega, rfl, by rw [← hb', if_pos (Or.inr ⟨by omega, rfl⟩)]⟩))
    clear hb'
    unfold Gives
    cases ca
    · rcases hcase with ⟨c1, rfl⟩ | ⟨c1, c2, rfl⟩ | ⟨c1, c2, rfl, rfl⟩ | ⟨c1, c2, rfl, rfl⟩
      · clear HBT
        go_enter Try.func38, Try.ntmps38
        go_wp2_with fail
        refine (HJo.out _).grows.mono ?_
        rintro e w1 ⟨rfl, hg1⟩
        have HG1 : Hid (Grew w w1) := Lib.hid (((((Grew.refl w).alloc _).alloc _).alloc _).trans hg1)
        have HA1 : Hid (Blok w1 w.heap.size 58 #[.int .i64 op, .int .i64 ((ra : Int) + rb), .int .i64 ((wa : Int) + wb), .bool cb, .int .u64 (H za), .int .u64 (L za), .int .i64 na, .int .i64 bk, .int .i64 bi, .string bs]) := Lib.hid ((((Blok.new _ _ _ _ rfl).alloc _).alloc _).grew hg1)
        have HB1 : Hid (Blok w1 (w.heap.size + 1) 58 #[.int .i64 op, .int .i64 rb, .int .i64 wb, .bool cb, .int .u64 (H zb), .int .u64 (L zb), .int .i64 nb, .int .i64 bk, .int .i64 bi, .string bs]) := Lib.hid (((Blok.new _ _ _ _ (by simp)).alloc _).grew hg1)
        have HZ1 : Hid (Blok w1 (w.heap.size + 1 + 1) 58 #[.int .i64 0, .int .i64 0, .int .i64 0, .bool false, .int .u64 0, .int .u64 0, .int .i64 0, .int .i64 0, .int .i64 0, .string ⟨#[]⟩]) := Lib.hid ((Blok.new _ _ _ _ (by simp)).grew hg1)
        clear hg1 HJo
        generalize hga : w.heap.size = ga at *
        have HGA := Lib.hid hga
        clear hga
        obtain ⟨la, a0, a1, a2, a3, a4, a5, a6, a7, a8, a9⟩ := acc_in HA1.out
        obtain ⟨b0, b1, b2, b3, b4, b5, b6, b7, b8, b9⟩ := acc_th HA1.out
        obtain ⟨lb, v0, v1, v2, v3, v4, v5, v6, v7, v8, v9⟩ := acc_in HB1.out
        obtain ⟨lz, z0, z1, z2, z3, z4, z5, z6, z7, z8, z9⟩ := acc_in HZ1.out
        obtain ⟨y0, y1, y2, y3, y4, y5, y6, y7, y8, y9⟩ := acc_th HZ1.out
        go_wp2
        have bz : Blok (((w1.setCell ⟨ga, 4, none⟩ (.int .u64 (H (za + zb)))).setCell ⟨ga, 5, none⟩ (.int .u64 (L (za + zb)))).setCell ⟨ga, 6, none⟩ (.int .i64 ((na : Int) + nb))) (ga + 1 + 1) 58 #[.int .i64 0, .int .i64 0, .int .i64 0, .bool false, .int .u64 0, .int .u64 0, .int .i64 0, .int .i64 0, .int .i64 0, .string ⟨#[]⟩] := by
          repeat (first | with_reducible exact HZ1.out | refine Blok.far ?_ (by simp <;> omega) _)
        have bg : Grew w (((w1.setCell ⟨ga, 4, none⟩ (.int .u64 (H (za + zb)))).setCell ⟨ga, 5, none⟩ (.int .u64 (L (za + zb)))).setCell ⟨ga, 6, none⟩ (.int .i64 ((na : Int) + nb))) := by
          repeat (first | with_reducible exact HG1.out | refine Grew.setCell ?_ (by rw [HGA.out]; exact Nat.le_refl _) _)
        have hb := acc_set bz (.int .i64 op) (.int .i64 ((ra : Int) + rb)) (.int .i64 ((wa : Int) + wb)) (.bool cb) (.int .u64 (H (za + zb))) (.int .u64 (L (za + zb))) (.int .i64 ((na : Int) + nb)) (.int .i64 bk) (.int .i64 bi) (.string bs)
        obtain ⟨_, r0, r1, r2, r3, r4, r5, r6, r7, r8, r9⟩ := acc_in hb
        exact bodyPost_ret (v := .agg #[.int .i64 op, .int .i64 ((ra : Int) + rb), .int .i64 ((wa : Int) + wb), .bool cb, .int .u64 (H (za + zb)), .int .u64 (L (za + zb)), .int .i64 ((na : Int) + nb), .int .i64 bk, .int .i64 bi, .string bs]) (by simp [results, Try.results38, go_sem, r0, r1, r2, r3, r4, r5, r6, r7, r8, r9]) rfl ⟨rfl, grew_set10 bg (by rw [HGA.out]; omega) _ _ _ _ _ _ _ _ _ _⟩
      · have c3 : (wb : Int) ≤ 0 := by omega
        clear c2
        go_enter Try.func38, Try.ntmps38
        go_wp2_with fail
        refine (HJo.out _).grows.mono ?_
        rintro e w1 ⟨rfl, hg1⟩
        have HG1 : Hid (Grew w w1) := Lib.hid (((((Grew.refl w).alloc _).alloc _).alloc _).trans hg1)
        have HA1 : Hid (Blok w1 w.heap.size 58 #[.int .i64 op, .int .i64 ((ra : Int) + rb), .int .i64 ((wa : Int) + wb), .bool cb, .int .u64 (H za), .int .u64 (L za), .int .i64 na, .int .i64 ak, .int .i64 ai, .string as_]) := Lib.hid ((((Blok.new _ _ _ _ rfl).alloc _).alloc _).grew hg1)
        have HB1 : Hid (Blok w1 (w.heap.size + 1) 58 #[.int .i64 op, .int .i64 rb, .int .i64 wb, .bool cb, .int .u64 (H zb), .int .u64 (L zb), .int .i64 nb, .int .i64 bk, .int .i64 bi, .string bs]) := Lib.hid (((Blok.new _ _ _ _ (by simp)).alloc _).grew hg1)
        have HZ1 : Hid (Blok w1 (w.heap.size + 1 + 1) 58 #[.int .i64 0, .int .i64 0, .int .i64 0, .bool false, .int .u64 0, .int .u64 0, .int .i64 0, .int .i64 0, .int .i64 0, .string ⟨#[]⟩]) := Lib.hid ((Blok.new _ _ _ _ (by simp)).grew hg1)
        clear hg1 HJo
        generalize hga : w.heap.size = ga at *
        have HGA := Lib.hid hga
        clear hga
        obtain ⟨la, a0, a1, a2, a3, a4, a5, a6, a7, a8, a9⟩ := acc_in HA1.out
        obtain ⟨b0, b1, b2, b3, b4, b5, b6, b7, b8, b9⟩ := acc_th HA1.out
        obtain ⟨lb, v0, v1, v2, v3, v4, v5, v6, v7, v8, v9⟩ := acc_in HB1.out
        obtain ⟨lz, z0, z1, z2, z3, z4, z5, z6, z7, z8, z9⟩ := acc_in HZ1.out
        obtain ⟨y0, y1, y2, y3, y4, y5, y6, y7, y8, y9⟩ := acc_th HZ1.out
        go_wp2
        have bz : Blok (((w1.setCell ⟨ga, 4, none⟩ (.int .u64 (H (za + zb)))).setCell ⟨ga, 5, none⟩ (.int .u64 (L (za + zb)))).setCell ⟨ga, 6, none⟩ (.int .i64 ((na : Int) + nb))) (ga + 1 + 1) 58 #[.int .i64 0, .int .i64 0, .int .i64 0, .bool false, .int .u64 0, .int .u64 0, .int .i64 0, .int .i64 0, .int .i64 0, .string ⟨#[]⟩] := by
          repeat (first | with_reducible exact HZ1.out | refine Blok.far ?_ (by simp <;> omega) _)
        have bg : Grew w (((w1.setCell ⟨ga, 4, none⟩ (.int .u64 (H (za + zb)))).setCell ⟨ga, 5, none⟩ (.int .u64 (L (za + zb)))).setCell ⟨ga, 6, none⟩ (.int .i64 ((na : Int) + nb))) := by
          repeat (first | with_reducible exact HG1.out | refine Grew.setCell ?_ (by rw [HGA.out]; exact Nat.le_refl _) _)
        have hb := acc_set bz (.int .i64 op) (.int .i64 ((ra : Int) + rb)) (.int .i64 ((wa : Int) + wb)) (.bool cb) (.int .u64 (H (za + zb))) (.int .u64 (L (za + zb))) (.int .i64 ((na : Int) + nb)) (.int .i64 ak) (.int .i64 ai) (.string as_)
        obtain ⟨_, r0, r1, r2, r3, r4, r5, r6, r7, r8, r9⟩ := acc_in hb
        exact bodyPost_ret (v := .agg #[.int .i64 op, .int .i64 ((ra : Int) + rb), .int .i64 ((wa : Int) + wb), .bool cb, .int .u64 (H (za + zb)), .int .u64 (L (za + zb)), .int .i64 ((na : Int) + nb), .int .i64 ak, .int .i64 ai, .string as_]) (by simp [results, Try.results38, go_sem, r0, r1, r2, r3, r4, r5, r6, r7, r8, r9]) rfl ⟨rfl, grew_set10 bg (by rw [HGA.out]; omega) _ _ _ _ _ _ _ _ _ _⟩
      · have c3 : (0 : Int) < wb := by omega
        go_enter Try.func38, Try.ntmps38
        go_wp2_with fail
        refine (HBT.out _).grows.mono ?_
        rintro e w1 ⟨rfl, hg1⟩
        have HG1 : Hid (Grew w w1) := Lib.hid (((((Grew.refl w).alloc _).alloc _).alloc _).trans hg1)
        have HA1 : Hid (Blok w1 w.heap.size 58 #[.int .i64 op, .int .i64 ra, .int .i64 wa, .bool false, .int .u64 (H za), .int .u64 (L za), .int .i64 na, .int .i64 ak, .int .i64 ai, .string as_]) := Lib.hid ((((Blok.new _ _ _ _ rfl).alloc _).alloc _).grew hg1)
        have HB1 : Hid (Blok w1 (w.heap.size + 1) 58 #[.int .i64 op, .int .i64 rb, .int .i64 wb, .bool cb, .int .u64 (H zb), .int .u64 (L zb), .int .i64 nb, .int .i64 bk, .int .i64 bi, .string bs]) := Lib.hid (((Blok.new _ _ _ _ (by simp)).alloc _).grew hg1)
        have HZ1 : Hid (Blok w1 (w.heap.size + 1 + 1) 58 #[.int .i64 0, .int .i64 0, .int .i64 0, .bool false, .int .u64 0, .int .u64 0, .int .i64 0, .int .i64 0, .int .i64 0, .string ⟨#[]⟩]) := Lib.hid ((Blok.new _ _ _ _ (by simp)).grew hg1)
        clear hg1 HBT
        generalize hga : w.heap.size = ga at *
        have HGA := Lib.hid hga
        clear hga
        obtain ⟨la, a0, a1, a2, a3, a4, a5, a6, a7, a8, a9⟩ := acc_in HA1.out
        obtain ⟨b0, b1, b2, b3, b4, b5, b6, b7, b8, b9⟩ := acc_th HA1.out
        obtain ⟨lb, v0, v1, v2, v3, v4, v5, v6, v7, v8, v9⟩ := acc_in HB1.out
        obtain ⟨lz, z0, z1, z2, z3, z4, z5, z6, z7, z8, z9⟩ := acc_in HZ1.out
        obtain ⟨y0, y1, y2, y3, y4, y5, y6, y7, y8, y9⟩ := acc_th HZ1.out
        go_wp2_with fail
        refine (HJo.out _).grows.mono ?_
        rintro e w2 ⟨rfl, hg⟩
        have ba : Blok ((((((w1.setCell ⟨ga, 7, none⟩ (.int .i64 bk)).setCell ⟨ga, 8, none⟩ (.int .i64 bi)).setCell ⟨ga, 9, none⟩ (.string bs)).setCell ⟨ga, 1, none⟩ (.int .i64 ((ra : Int) + rb))).setCell ⟨ga, 2, none⟩ (.int .i64 ((wa : Int) + wb))).setCell ⟨ga, 3, none⟩ (.bool cb)) ga 58 #[.int .i64 op, .int .i64 ((ra : Int) + rb), .int .i64 ((wa : Int) + wb), .bool cb, .int .u64 (H za), .int .u64 (L za), .int .i64 na, .int .i64 bk, .int .i64 bi, .string bs] := by
          have := ((((((HA1.out.set 7 (.int .i64 bk)).set 8 (.int .i64 bi)).set 9 (.string bs)).set 1 (.int .i64 ((ra : Int) + rb))).set 2 (.int .i64 ((wa : Int) + wb))).set 3 (.bool cb))
          simpa using this
        have bv : Blok ((((((w1.setCell ⟨ga, 7, none⟩ (.int .i64 bk)).setCell ⟨ga, 8, none⟩ (.int .i64 bi)).setCell ⟨ga, 9, none⟩ (.string bs)).setCell ⟨ga, 1, none⟩ (.int .i64 ((ra : Int) + rb))).setCell ⟨ga, 2, none⟩ (.int .i64 ((wa : Int) + wb))).setCell ⟨ga, 3, none⟩ (.bool cb)) (ga + 1) 58 #[.int .i64 op, .int .i64 rb, .int .i64 wb, .bool cb, .int .u64 (H zb), .int .u64 (L zb), .int .i64 nb, .int .i64 bk, .int .i64 bi, .string bs] := by
          repeat (first | with_reducible exact HB1.out | refine Blok.far ?_ (by simp) _)
        have bz : Blok ((((((w1.setCell ⟨ga, 7, none⟩ (.int .i64 bk)).setCell ⟨ga, 8, none⟩ (.int .i64 bi)).setCell ⟨ga, 9, none⟩ (.string bs)).setCell ⟨ga, 1, none⟩ (.int .i64 ((ra : Int) + rb))).setCell ⟨ga, 2, none⟩ (.int .i64 ((wa : Int) + wb))).setCell ⟨ga, 3, none⟩ (.bool cb)) (ga + 1 + 1) 58 #[.int .i64 0, .int .i64 0, .int .i64 0, .bool false, .int .u64 0, .int .u64 0, .int .i64 0, .int .i64 0, .int .i64 0, .string ⟨#[]⟩] := by
          repeat (first | with_reducible exact HZ1.out | refine Blok.far ?_ (by simp <;> omega) _)
        have bg : Grew w ((((((w1.setCell ⟨ga, 7, none⟩ (.int .i64 bk)).setCell ⟨ga, 8, none⟩ (.int .i64 bi)).setCell ⟨ga, 9, none⟩ (.string bs)).setCell ⟨ga, 1, none⟩ (.int .i64 ((ra : Int) + rb))).setCell ⟨ga, 2, none⟩ (.int .i64 ((wa : Int) + wb))).setCell ⟨ga, 3, none⟩ (.bool cb)) := by
          repeat (first | with_reducible exact HG1.out | refine Grew.setCell ?_ (by rw [HGA.out]; exact Nat.le_refl _) _)
        have HA2 := Lib.hid (ba.grew hg)
        have HB2 := Lib.hid (bv.grew hg)
        have HZ2 := Lib.hid (bz.grew hg)
        have HG2 := Lib.hid (bg.trans hg)
        clear hg ba bv bz bg HA1 HB1 HZ1 HG1
        clear la a0 a1 a2 a3 a4 a5 a6 a7 a8 a9 b0 b1 b2 b3 b4 b5 b6 b7 b8 b9 lb v0 v1 v2 v3 v4 v5 v6 v7 v8 v9 lz z0 z1 z2 z3 z4 z5 z6 z7 z8 z9 y0 y1 y2 y3 y4 y5 y6 y7 y8 y9
        obtain ⟨la, a0, a1, a2, a3, a4, a5, a6, a7, a8, a9⟩ := acc_in HA2.out
        obtain ⟨b0, b1, b2, b3, b4, b5, b6, b7, b8, b9⟩ := acc_th HA2.out
        obtain ⟨lb, v0, v1, v2, v3, v4, v5, v6, v7, v8, v9⟩ := acc_in HB2.out
        obtain ⟨lz, z0, z1, z2, z3, z4, z5, z6, z7, z8, z9⟩ := acc_in HZ2.out
        obtain ⟨y0, y1, y2, y3, y4, y5, y6, y7, y8, y9⟩ := acc_th HZ2.out
        go_wp2
        have bz : Blok (((w2.setCell ⟨ga, 4, none⟩ (.int .u64 (H (za + zb)))).setCell ⟨ga, 5, none⟩ (.int .u64 (L (za + zb)))).setCell ⟨ga, 6, none⟩ (.int .i64 ((na : Int) + nb))) (ga + 1 + 1) 58 #[.int .i64 0, .int .i64 0, .int .i64 0, .bool false, .int .u64 0, .int .u64 0, .int .i64 0, .int .i64 0, .int .i64 0, .string ⟨#[]⟩] := by
          repeat (first | with_reducible exact HZ2.out | refine Blok.far ?_ (by simp <;> omega) _)
        have bg : Grew w (((w2.setCell ⟨ga, 4, none⟩ (.int .u64 (H (za + zb)))).setCell ⟨ga, 5, none⟩ (.int .u64 (L (za + zb)))).setCell ⟨ga, 6, none⟩ (.int .i64 ((na : Int) + nb))) := by
          repeat (first | with_reducible exact HG2.out | refine Grew.setCell ?_ (by rw [HGA.out]; exact Nat.le_refl _) _)
        have hb := acc_set bz (.int .i64 op) (.int .i64 ((ra : Int) + rb)) (.int .i64 ((wa : Int) + wb)) (.bool cb) (.int .u64 (H (za + zb))) (.int .u64 (L (za + zb))) (.int .i64 ((na : Int) + nb)) (.int .i64 bk) (.int .i64 bi) (.string bs)
        obtain ⟨_, r0, r1, r2, r3, r4, r5, r6, r7, r8, r9⟩ := acc_in hb
        exact bodyPost_ret (v := .agg #[.int .i64 op, .int .i64 ((ra : Int) + rb), .int .i64 ((wa : Int) + wb), .bool cb, .int .u64 (H (za + zb)), .int .u64 (L (za + zb)), .int .i64 ((na : Int) + nb), .int .i64 bk, .int .i64 bi, .string bs]) (by simp [results, Try.results38, go_sem, r0, r1, r2, r3, r4, r5, r6, r7, r8, r9]) rfl ⟨rfl, grew_set10 bg (by rw [HGA.out]; omega) _ _ _ _ _ _ _ _ _ _⟩
      · have c3 : (0 : Int) < wb := by omega
        go_enter Try.func38, Try.ntmps38
        go_wp2_with fail
        refine (HBT.out _).grows.mono ?_
        rintro e w1 ⟨rfl, hg1⟩
        have HG1 : Hid (Grew w w1) := Lib.hid (((((Grew.refl w).alloc _).alloc _).alloc _).trans hg1)
        have HA1 : Hid (Blok w1 w.heap.size 58 #[.int .i64 op, .int .i64 ra, .int .i64 wa, .bool false, .int .u64 (H za), .int .u64 (L za), .int .i64 na, .int .i64 ak, .int .i64 ai, .string as_]) := Lib.hid ((((Blok.new _ _ _ _ rfl).alloc _).alloc _).grew hg1)
        have HB1 : Hid (Blok w1 (w.heap.size + 1) 58 #[.int .i64 op, .int .i64 rb, .int .i64 wb, .bool cb, .int .u64 (H zb), .int .u64 (L zb), .int .i64 nb, .int .i64 bk, .int .i64 bi, .string bs]) := Lib.hid (((Blok.new _ _ _ _ (by simp)).alloc _).grew hg1)
        have HZ1 : Hid (Blok w1 (w.heap.size + 1 + 1) 58 #[.int .i64 0, .int .i64 0, .int .i64 0, .bool false, .int .u64 0, .int .u64 0, .int .i64 0, .int .i64 0, .int .i64 0, .string ⟨#[]⟩]) := Lib.hid ((Blok.new _ _ _ _ (by simp)).grew hg1)
        clear hg1 HBT
        generalize hga : w.heap.size = ga at *
        have HGA := Lib.hid hga
        clear hga
        obtain ⟨la, a0, a1, a2, a3, a4, a5, a6, a7, a8, a9⟩ := acc_in HA1.out
        obtain ⟨b0, b1, b2, b3, b4, b5, b6, b7, b8, b9⟩ := acc_th HA1.out
        obtain ⟨lb, v0, v1, v2, v3, v4, v5, v6, v7, v8, v9⟩ := acc_in HB1.out
        obtain ⟨lz, z0, z1, z2, z3, z4, z5, z6, z7, z8, z9⟩ := acc_in HZ1.out
        obtain ⟨y0, y1, y2, y3, y4, y5, y6, y7, y8, y9⟩ := acc_th HZ1.out
        go_wp2_with fail
        refine (HJo.out _).grows.mono ?_
        rintro e w2 ⟨rfl, hg⟩
        have ba : Blok (((w1.setCell ⟨ga, 1, none⟩ (.int .i64 ((ra : Int) + rb))).setCell ⟨ga, 2, none⟩ (.int .i64 ((wa : Int) + wb))).setCell ⟨ga, 3, none⟩ (.bool cb)) ga 58 #[.int .i64 op, .int .i64 ((ra : Int) + rb), .int .i64 ((wa : Int) + wb), .bool cb, .int .u64 (H za), .int .u64 (L za), .int .i64 na, .int .i64 ak, .int .i64 ai, .string as_] := by
          have := (((HA1.out.set 1 (.int .i64 ((ra : Int) + rb))).set 2 (.int .i64 ((wa : Int) + wb))).set 3 (.bool cb))
          simpa using this
        have bv : Blok (((w1.setCell ⟨ga, 1, none⟩ (.int .i64 ((ra : Int) + rb))).setCell ⟨ga, 2, none⟩ (.int .i64 ((wa : Int) + wb))).setCell ⟨ga, 3, none⟩ (.bool cb)) (ga + 1) 58 #[.int .i64 op, .int .i64 rb, .int .i64 wb, .bool cb, .int .u64 (H zb), .int .u64 (L zb), .int .i64 nb, .int .i64 bk, .int .i64 bi, .string bs] := by
          repeat (first | with_reducible exact HB1.out | refine Blok.far ?_ (by simp) _)
        have bz : Blok (((w1.setCell ⟨ga, 1, none⟩ (.int .i64 ((ra : Int) + rb))).setCell ⟨ga, 2, none⟩ (.int .i64 ((wa : Int) + wb))).setCell ⟨ga, 3, none⟩ (.bool cb)) (ga + 1 + 1) 58 #[.int .i64 0, .int .i64 0, .int .i64 0, .bool false, .int .u64 0, .int .u64 0, .int .i64 0, .int .i64 0, .int .i64 0, .string ⟨#[]⟩] := by
          repeat (first | with_reducible exact HZ1.out | refine Blok.far ?_ (by simp <;> omega) _)
        have bg : Grew w (((w1.setCell ⟨ga, 1, none⟩ (.int .i64 ((ra : Int) + rb))).setCell ⟨ga, 2, none⟩ (.int .i64 ((wa : Int) + wb))).setCell ⟨ga, 3, none⟩ (.bool cb)) := by
          repeat (first | with_reducible exact HG1.out | refine Grew.setCell ?_ (by rw [HGA.out]; exact Nat.le_refl _) _)
        have HA2 := Lib.hid (ba.grew hg)
        have HB2 := Lib.hid (bv.grew hg)
        have HZ2 := Lib.hid (bz.grew hg)
        have HG2 := Lib.hid (bg.trans hg)
        clear hg ba bv bz bg HA1 HB1 HZ1 HG1
        clear la a0 a1 a2 a3 a4 a5 a6 a7 a8 a9 b0 b1 b2 b3 b4 b5 b6 b7 b8 b9 lb v0 v1 v2 v3 v4 v5 v6 v7 v8 v9 lz z0 z1 z2 z3 z4 z5 z6 z7 z8 z9 y0 y1 y2 y3 y4 y5 y6 y7 y8 y9
        obtain ⟨la, a0, a1, a2, a3, a4, a5, a6, a7, a8, a9⟩ := acc_in HA2.out
        obtain ⟨b0, b1, b2, b3, b4, b5, b6, b7, b8, b9⟩ := acc_th HA2.out
        obtain ⟨lb, v0, v1, v2, v3, v4, v5, v6, v7, v8, v9⟩ := acc_in HB2.out
        obtain ⟨lz, z0, z1, z2, z3, z4, z5, z6, z7, z8, z9⟩ := acc_in HZ2.out
        obtain ⟨y0, y1, y2, y3, y4, y5, y6, y7, y8, y9⟩ := acc_th HZ2.out
        go_wp2
        have bz : Blok (((w2.setCell ⟨ga, 4, none⟩ (.int .u64 (H (za + zb)))).setCell ⟨ga, 5, none⟩ (.int .u64 (L (za + zb)))).setCell ⟨ga, 6, none⟩ (.int .i64 ((na : Int) + nb))) (ga + 1 + 1) 58 #[.int .i64 0, .int .i64 0, .int .i64 0, .bool false, .int .u64 0, .int .u64 0, .int .i64 0, .int .i64 0, .int .i64 0, .string ⟨#[]⟩] := by
          repeat (first | with_reducible exact HZ2.out | refine Blok.far ?_ (by simp <;> omega) _)
        have bg : Grew w (((w2.setCell ⟨ga, 4, none⟩ (.int .u64 (H (za + zb)))).setCell ⟨ga, 5, none⟩ (.int .u64 (L (za + zb)))).setCell ⟨ga, 6, none⟩ (.int .i64 ((na : Int) + nb))) := by
          repeat (first | with_reducible exact HG2.out | refine Grew.setCell ?_ (by rw [HGA.out]; exact Nat.le_refl _) _)
        have hb := acc_set bz (.int .i64 op) (.int .i64 ((ra : Int) + rb)) (.int .i64 ((wa : Int) + wb)) (.bool cb) (.int .u64 (H (za + zb))) (.int .u64 (L (za + zb))) (.int .i64 ((na : Int) + nb)) (.int .i64 ak) (.int .i64 ai) (.string as_)
        obtain ⟨_, r0, r1, r2, r3, r4, r5, r6, r7, r8, r9⟩ := acc_in hb
        exact bodyPost_ret (v := .agg #[.int .i64 op, .int .i64 ((ra : Int) + rb), .int .i64 ((wa : Int) + wb), .bool cb, .int .u64 (H (za + zb)), .int .u64 (L (za + zb)), .int .i64 ((na : Int) + nb), .int .i64 ak, .int .i64 ai, .string as_]) (by simp [results, Try.results38, go_sem, r0, r1, r2, r3, r4, r5, r6, r7, r8, r9]) rfl ⟨rfl, grew_set10 bg (by rw [HGA.out]; omega) _ _ _ _ _ _ _ _ _ _⟩
    · rcases hcase with ⟨c1, rfl⟩ | ⟨c1, c2, rfl⟩ | ⟨c1, c2, rfl, rfl⟩ | ⟨c1, c2, rfl, rfl⟩
      · clear HBT
        go_enter Try.func38, Try.ntmps38
        go_wp2_with fail
        refine (HJo.out _).grows.mono ?_
        rintro e w1 ⟨rfl, hg1⟩
        have HG1 : Hid (Grew w w1) := Lib.hid (((((Grew.refl w).alloc _).alloc _).alloc _).trans hg1)
        have HA1 : Hid (Blok w1 w.heap.size 58 #[.int .i64 op, .int .i64 ((ra : Int) + rb), .int .i64 ((wa : Int) + wb), .bool true, .int .u64 (H za), .int .u64 (L za), .int .i64 na, .int .i64 bk, .int .i64 bi, .string bs]) := Lib.hid ((((Blok.new _ _ _ _ rfl).alloc _).alloc _).grew hg1)
        have HB1 : Hid (Blok w1 (w.heap.size + 1) 58 #[.int .i64 op, .int .i64 rb, .int .i64 wb, .bool cb, .int .u64 (H zb), .int .u64 (L zb), .int .i64 nb, .int .i64 bk, .int .i64 bi, .string bs]) := Lib.hid (((Blok.new _ _ _ _ (by simp)).alloc _).grew hg1)
        have HZ1 : Hid (Blok w1 (w.heap.size + 1 + 1) 58 #[.int .i64 0, .int .i64 0, .int .i64 0, .bool false, .int .u64 0, .int .u64 0, .int .i64 0, .int .i64 0, .int .i64 0, .string ⟨#[]⟩]) := Lib.hid ((Blok.new _ _ _ _ (by simp)).grew hg1)
        clear hg1 HJo
        generalize hga : w.heap.size = ga at *
        have HGA := Lib.hid hga
        clear hga
        obtain ⟨la, a0, a1, a2, a3, a4, a5, a6, a7, a8, a9⟩ := acc_in HA1.out
        obtain ⟨b0, b1, b2, b3, b4, b5, b6, b7, b8, b9⟩ := acc_th HA1.out
        obtain ⟨lb, v0, v1, v2, v3, v4, v5, v6, v7, v8, v9⟩ := acc_in HB1.out
        obtain ⟨lz, z0, z1, z2, z3, z4, z5, z6, z7, z8, z9⟩ := acc_in HZ1.out
        obtain ⟨y0, y1, y2, y3, y4, y5, y6, y7, y8, y9⟩ := acc_th HZ1.out
        go_wp2
        have bz : Blok (((w1.setCell ⟨ga, 4, none⟩ (.int .u64 (H (za + zb)))).setCell ⟨ga, 5, none⟩ (.int .u64 (L (za + zb)))).setCell ⟨ga, 6, none⟩ (.int .i64 ((na : Int) + nb))) (ga + 1 + 1) 58 #[.int .i64 0, .int .i64 0, .int .i64 0, .bool false, .int .u64 0, .int .u64 0, .int .i64 0, .int .i64 0, .int .i64 0, .string ⟨#[]⟩] := by
          repeat (first | with_reducible exact HZ1.out | refine Blok.far ?_ (by simp <;> omega) _)
        have bg : Grew w (((w1.setCell ⟨ga, 4, none⟩ (.int .u64 (H (za + zb)))).setCell ⟨ga, 5, none⟩ (.int .u64 (L (za + zb)))).setCell ⟨ga, 6, none⟩ (.int .i64 ((na : Int) + nb))) := by
          repeat (first | with_reducible exact HG1.out | refine Grew.setCell ?_ (by rw [HGA.out]; exact Nat.le_refl _) _)
        have hb := acc_set bz (.int .i64 op) (.int .i64 ((ra : Int) + rb)) (.int .i64 ((wa : Int) + wb)) (.bool true) (.int .u64 (H (za + zb))) (.int .u64 (L (za + zb))) (.int .i64 ((na : Int) + nb)) (.int .i64 bk) (.int .i64 bi) (.string bs)
        obtain ⟨_, r0, r1, r2, r3, r4, r5, r6, r7, r8, r9⟩ := acc_in hb
        exact bodyPost_ret (v := .agg #[.int .i64 op, .int .i64 ((ra : Int) + rb), .int .i64 ((wa : Int) + wb), .bool true, .int .u64 (H (za + zb)), .int .u64 (L (za + zb)), .int .i64 ((na : Int) + nb), .int .i64 bk, .int .i64 bi, .string bs]) (by simp [results, Try.results38, go_sem, r0, r1, r2, r3, r4, r5, r6, r7, r8, r9]) rfl ⟨rfl, grew_set10 bg (by rw [HGA.out]; omega) _ _ _ _ _ _ _ _ _ _⟩
      · have c3 : (wb : Int) ≤ 0 := by omega
        clear c2
        go_enter Try.func38, Try.ntmps38
        go_wp2_with fail
        refine (HJo.out _).grows.mono ?_
        rintro e w1 ⟨rfl, hg1⟩
        have HG1 : Hid (Grew w w1) := Lib.hid (((((Grew.refl w).alloc _).alloc _).alloc _).trans hg1)
        have HA1 : Hid (Blok w1 w.heap.size 58 #[.int .i64 op, .int .i64 ((ra : Int) + rb), .int .i64 ((wa : Int) + wb), .bool true, .int .u64 (H za), .int .u64 (L za), .int .i64 na, .int .i64 ak, .int .i64 ai, .string as_]) := Lib.hid ((((Blok.new _ _ _ _ rfl).alloc _).alloc _).grew hg1)
        have HB1 : Hid (Blok w1 (w.heap.size + 1) 58 #[.int .i64 op, .int .i64 rb, .int .i64 wb, .bool cb, .int .u64 (H zb), .int .u64 (L zb), .int .i64 nb, .int .i64 bk, .int .i64 bi, .string bs]) := Lib.hid (((Blok.new _ _ _ _ (by simp)).alloc _).grew hg1)
        have HZ1 : Hid (Blok w1 (w.heap.size + 1 + 1) 58 #[.int .i64 0, .int .i64 0, .int .i64 0, .bool false, .int .u64 0, .int .u64 0, .int .i64 0, .int .i64 0, .int .i64 0, .string ⟨#[]⟩]) := Lib.hid ((Blok.new _ _ _ _ (by simp)).grew hg1)
        clear hg1 HJo
        generalize hga : w.heap.size = ga at *
        have HGA := Lib.hid hga
        clear hga
        obtain ⟨la, a0, a1, a2, a3, a4, a5, a6, a7, a8, a9⟩ := acc_in HA1.out
        obtain ⟨b0, b1, b2, b3, b4, b5, b6, b7, b8, b9⟩ := acc_th HA1.out
        obtain ⟨lb, v0, v1, v2, v3, v4, v5, v6, v7, v8, v9⟩ := acc_in HB1.out
        obtain ⟨lz, z0, z1, z2, z3, z4, z5, z6, z7, z8, z9⟩ := acc_in HZ1.out
        obtain ⟨y0, y1, y2, y3, y4, y5, y6, y7, y8, y9⟩ := acc_th HZ1.out
        go_wp2
        have bz : Blok (((w1.setCell ⟨ga, 4, none⟩ (.int .u64 (H (za + zb)))).setCell ⟨ga, 5, none⟩ (.int .u64 (L (za + zb)))).setCell ⟨ga, 6, none⟩ (.int .i64 ((na : Int) + nb))) (ga + 1 + 1) 58 #[.int .i64 0, .int .i64 0, .int .i64 0, .bool false, .int .u64 0, .int .u64 0, .int .i64 0, .int .i64 0, .int .i64 0, .string ⟨#[]⟩] := by
          repeat (first | with_reducible exact HZ1.out | refine Blok.far ?_ (by simp <;> omega) _)
        have bg : Grew w (((w1.setCell ⟨ga, 4, none⟩ (.int .u64 (H (za + zb)))).setCell ⟨ga, 5, none⟩ (.int .u64 (L (za + zb)))).setCell ⟨ga, 6, none⟩ (.int .i64 ((na : Int) + nb))) := by
          repeat (first | with_reducible exact HG1.out | refine Grew.setCell ?_ (by rw [HGA.out]; exact Nat.le_refl _) _)
        have hb := acc_set bz (.int .i64 op) (.int .i64 ((ra : Int) + rb)) (.int .i64 ((wa : Int) + wb)) (.bool true) (.int .u64 (H (za + zb))) (.int .u64 (L (za + zb))) (.int .i64 ((na : Int) + nb)) (.int .i64 ak) (.int .i64 ai) (.string as_)
        obtain ⟨_, r0, r1, r2, r3, r4, r5, r6, r7, r8, r9⟩ := acc_in hb
        exact bodyPost_ret (v := .agg #[.int .i64 op, .int .i64 ((ra : Int) + rb), .int .i64 ((wa : Int) + wb), .bool true, .int .u64 (H (za + zb)), .int .u64 (L (za + zb)), .int .i64 ((na : Int) + nb), .int .i64 ak, .int .i64 ai, .string as_]) (by simp [results, Try.results38, go_sem, r0, r1, r2, r3, r4, r5, r6, r7, r8, r9]) rfl ⟨rfl, grew_set10 bg (by rw [HGA.out]; omega) _ _ _ _ _ _ _ _ _ _⟩
      · have c3 : (0 : Int) < wb := by omega
        go_enter Try.func38, Try.ntmps38
        go_wp2_with fail
        refine (HBT.out _).grows.mono ?_
        rintro e w1 ⟨rfl, hg1⟩
        have HG1 : Hid (Grew w w1) := Lib.hid (((((Grew.refl w).alloc _).alloc _).alloc _).trans hg1)
        have HA1 : Hid (Blok w1 w.heap.size 58 #[.int .i64 op, .int .i64 ra, .int .i64 wa, .bool true, .int .u64 (H za), .int .u64 (L za), .int .i64 na, .int .i64 ak, .int .i64 ai, .string as_]) := Lib.hid ((((Blok.new _ _ _ _ rfl).alloc _).alloc _).grew hg1)
        have HB1 : Hid (Blok w1 (w.heap.size + 1) 58 #[.int .i64 op, .int .i64 rb, .int .i64 wb, .bool cb, .int .u64 (H zb), .int .u64 (L zb), .int .i64 nb, .int .i64 bk, .int .i64 bi, .string bs]) := Lib.hid (((Blok.new _ _ _ _ (by simp)).alloc _).grew hg1)
        have HZ1 : Hid (Blok w1 (w.heap.size + 1 + 1) 58 #[.int .i64 0, .int .i64 0, .int .i64 0, .bool false, .int .u64 0, .int .u64 0, .int .i64 0, .int .i64 0, .int .i64 0, .string ⟨#[]⟩]) := Lib.hid ((Blok.new _ _ _ _ (by simp)).grew hg1)
        clear hg1 HBT
        generalize hga : w.heap.size = ga at *
        have HGA := Lib.hid hga
        clear hga
        obtain ⟨la, a0, a1, a2, a3, a4, a5, a6, a7, a8, a9⟩ := acc_in HA1.out
        obtain ⟨b0, b1, b2, b3, b4, b5, b6, b7, b8, b9⟩ := acc_th HA1.out
        obtain ⟨lb, v0, v1, v2, v3, v4, v5, v6, v7, v8, v9⟩ := acc_in HB1.out
        obtain ⟨lz, z0, z1, z2, z3, z4, z5, z6, z7, z8, z9⟩ := acc_in HZ1.out
        obtain ⟨y0, y1, y2, y3, y4, y5, y6, y7, y8, y9⟩ := acc_th HZ1.out
        go_wp2_with fail
        refine (HJo.out _).grows.mono ?_
        rintro e w2 ⟨rfl, hg⟩
        have ba : Blok ((((((w1.setCell ⟨ga, 7, none⟩ (.int .i64 bk)).setCell ⟨ga, 8, none⟩ (.int .i64 bi)).setCell ⟨ga, 9, none⟩ (.string bs)).setCell ⟨ga, 1, none⟩ (.int .i64 ((ra : Int) + rb))).setCell ⟨ga, 2, none⟩ (.int .i64 ((wa : Int) + wb))).setCell ⟨ga, 3, none⟩ (.bool true)) ga 58 #[.int .i64 op, .int .i64 ((ra : Int) + rb), .int .i64 ((wa : Int) + wb), .bool true, .int .u64 (H za), .int .u64 (L za), .int .i64 na, .int .i64 bk, .int .i64 bi, .string bs] := by
          have := ((((((HA1.out.set 7 (.int .i64 bk)).set 8 (.int .i64 bi)).set 9 (.string bs)).set 1 (.int .i64 ((ra : Int) + rb))).set 2 (.int .i64 ((wa : Int) + wb))).set 3 (.bool true))
          simpa using this
        have bv : Blok ((((((w1.setCell ⟨ga, 7, none⟩ (.int .i64 bk)).setCell ⟨ga, 8, none⟩ (.int .i64 bi)).setCell ⟨ga, 9, none⟩ (.string bs)).setCell ⟨ga, 1, none⟩ (.int .i64 ((ra : Int) + rb))).setCell ⟨ga, 2, none⟩ (.int .i64 ((wa : Int) + wb))).setCell ⟨ga, 3, none⟩ (.bool true)) (ga + 1) 58 #[.int .i64 op, .int .i64 rb, .int .i64 wb, .bool cb, .int .u64 (H zb), .int .u64 (L zb), .int .i64 nb, .int .i64 bk, .int .i64 bi, .string bs] := by
          repeat (first | with_reducible exact HB1.out | refine Blok.far ?_ (by simp) _)
        have bz : Blok ((((((w1.setCell ⟨ga, 7, none⟩ (.int .i64 bk)).setCell ⟨ga, 8, none⟩ (.int .i64 bi)).setCell ⟨ga, 9, none⟩ (.string bs)).setCell ⟨ga, 1, none⟩ (.int .i64 ((ra : Int) + rb))).setCell ⟨ga, 2, none⟩ (.int .i64 ((wa : Int) + wb))).setCell ⟨ga, 3, none⟩ (.bool true)) (ga + 1 + 1) 58 #[.int .i64 0, .int .i64 0, .int .i64 0, .bool false, .int .u64 0, .int .u64 0, .int .i64 0, .int .i64 0, .int .i64 0, .string ⟨#[]⟩] := by
          repeat (first | with_reducible exact HZ1.out | refine Blok.far ?_ (by simp <;> omega) _)
        have bg : Grew w ((((((w1.setCell ⟨ga, 7, none⟩ (.int .i64 bk)).setCell ⟨ga, 8, none⟩ (.int .i64 bi)).setCell ⟨ga, 9, none⟩ (.string bs)).setCell ⟨ga, 1, none⟩ (.int .i64 ((ra : Int) + rb))).setCell ⟨ga, 2, none⟩ (.int .i64 ((wa : Int) + wb))).setCell ⟨ga, 3, none⟩ (.bool true)) := by
          repeat (first | with_reducible exact HG1.out | refine Grew.setCell ?_ (by rw [HGA.out]; exact Nat.le_refl _) _)
        have HA2 := Lib.hid (ba.grew hg)
        have HB2 := Lib.hid (bv.grew hg)
        have HZ2 := Lib.hid (bz.grew hg)
        have HG2 := Lib.hid (bg.trans hg)
        clear hg ba bv bz bg HA1 HB1 HZ1 HG1
        clear la a0 a1 a2 a3 a4 a5 a6 a7 a8 a9 b0 b1 b2 b3 b4 b5 b6 b7 b8 b9 lb v0 v1 v2 v3 v4 v5 v6 v7 v8 v9 lz z0 z1 z2 z3 z4 z5 z6 z7 z8 z9 y0 y1 y2 y3 y4 y5 y6 y7 y8 y9
        obtain ⟨la, a0, a1, a2, a3, a4, a5, a6, a7, a8, a9⟩ := acc_in HA2.out
        obtain ⟨b0, b1, b2, b3, b4, b5, b6, b7, b8, b9⟩ := acc_th HA2.out
        obtain ⟨lb, v0, v1, v2, v3, v4, v5, v6, v7, v8, v9⟩ := acc_in HB2.out
        obtain ⟨lz, z0, z1, z2, z3, z4, z5, z6, z7, z8, z9⟩ := acc_in HZ2.out
        obtain ⟨y0, y1, y2, y3, y4, y5, y6, y7, y8, y9⟩ := acc_th HZ2.out
        go_wp2
        have bz : Blok (((w2.setCell ⟨ga, 4, none⟩ (.int .u64 (H (za + zb)))).setCell ⟨ga, 5, none⟩ (.int .u64 (L (za + zb)))).setCell ⟨ga, 6, none⟩ (.int .i64 ((na : Int) + nb))) (ga + 1 + 1) 58 #[.int .i64 0, .int .i64 0, .int .i64 0, .bool false, .int .u64 0, .int .u64 0, .int .i64 0, .int .i64 0, .int .i64 0, .string ⟨#[]⟩] := by
          repeat (first | with_reducible exact HZ2.out | refine Blok.far ?_ (by simp <;> omega) _)
        have bg : Grew w (((w2.setCell ⟨ga, 4, none⟩ (.int .u64 (H (za + zb)))).setCell ⟨ga, 5, none⟩ (.int .u64 (L (za + zb)))).setCell ⟨ga, 6, none⟩ (.int .i64 ((na : Int) + nb))) := by
          repeat (first | with_reducible exact HG2.out | refine Grew.setCell ?_ (by rw [HGA.out]; exact Nat.le_refl _) _)
        have hb := acc_set bz (.int .i64 op) (.int .i64 ((ra : Int) + rb)) (.int .i64 ((wa : Int) + wb)) (.bool true) (.int .u64 (H (za + zb))) (.int .u64 (L (za + zb))) (.int .i64 ((na : Int) + nb)) (.int .i64 bk) (.int .i64 bi) (.string bs)
        obtain ⟨_, r0, r1, r2, r3, r4, r5, r6, r7, r8, r9⟩ := acc_in hb
        exact bodyPost_ret (v := .agg #[.int .i64 op, .int .i64 ((ra : Int) + rb), .int .i64 ((wa : Int) + wb), .bool true, .int .u64 (H (za + zb)), .int .u64 (L (za + zb)), .int .i64 ((na : Int) + nb), .int .i64 bk, .int .i64 bi, .string bs]) (by simp [results, Try.results38, go_sem, r0, r1, r2, r3, r4, r5, r6, r7, r8, r9]) rfl ⟨rfl, grew_set10 bg (by rw [HGA.out]; omega) _ _ _ _ _ _ _ _ _ _⟩
      · have c3 : (0 : Int) < wb := by omega
        go_enter Try.func38, Try.ntmps38
        go_wp2_with fail
        refine (HBT.out _).grows.mono ?_
        rintro e w1 ⟨rfl, hg1⟩
        have HG1 : Hid (Grew w w1) := Lib.hid (((((Grew.refl w).alloc _).alloc _).alloc _).trans hg1)
        have HA1 : Hid (Blok w1 w.heap.size 58 #[.int .i64 op, .int .i64 ra, .int .i64 wa, .bool true, .int .u64 (H za), .int .u64 (L za), .int .i64 na, .int .i64 ak, .int .i64 ai, .string as_]) := Lib.hid ((((Blok.new _ _ _ _ rfl).alloc _).alloc _).grew hg1)
        have HB1 : Hid (Blok w1 (w.heap.size + 1) 58 #[.int .i64 op, .int .i64 rb, .int .i64 wb, .bool cb, .int .u64 (H zb), .int .u64 (L zb), .int .i64 nb, .int .i64 bk, .int .i64 bi, .string bs]) := Lib.hid (((Blok.new _ _ _ _ (by simp)).alloc _).grew hg1)
        have HZ1 : Hid (Blok w1 (w.heap.size + 1 + 1) 58 #[.int .i64 0, .int .i64 0, .int .i64 0, .bool false, .int .u64 0, .int .u64 0, .int .i64 0, .int .i64 0, .int .i64 0, .string ⟨#[]⟩]) := Lib.hid ((Blok.new _ _ _ _ (by simp)).grew hg1)
        clear hg1 HBT
        generalize hga : w.heap.size = ga at *
        have HGA := Lib.hid hga
        clear hga
        obtain ⟨la, a0, a1, a2, a3, a4, a5, a6, a7, a8, a9⟩ := acc_in HA1.out
        obtain ⟨b0, b1, b2, b3, b4, b5, b6, b7, b8, b9⟩ := acc_th HA1.out
        obtain ⟨lb, v0, v1, v2, v3, v4, v5, v6, v7, v8, v9⟩ := acc_in HB1.out
        obtain ⟨lz, z0, z1, z2, z3, z4, z5, z6, z7, z8, z9⟩ := acc_in HZ1.out
        obtain ⟨y0, y1, y2, y3, y4, y5, y6, y7, y8, y9⟩ := acc_th HZ1.out
        go_wp2_with fail
        refine (HJo.out _).grows.mono ?_
        rintro e w2 ⟨rfl, hg⟩
        have ba : Blok (((w1.setCell ⟨ga, 1, none⟩ (.int .i64 ((ra : Int) + rb))).setCell ⟨ga, 2, none⟩ (.int .i64 ((wa : Int) + wb))).setCell ⟨ga, 3, none⟩ (.bool true)) ga 58 #[.int .i64 op, .int .i64 ((ra : Int) + rb), .int .i64 ((wa : Int) + wb), .bool true, .int .u64 (H za), .int .u64 (L za), .int .i64 na, .int .i64 ak, .int .i64 ai, .string as_] := by
          have := (((HA1.out.set 1 (.int .i64 ((ra : Int) + rb))).set 2 (.int .i64 ((wa : Int) + wb))).set 3 (.bool true))
          simpa using this
        have bv : Blok (((w1.setCell ⟨ga, 1, none⟩ (.int .i64 ((ra : Int) + rb))).setCell ⟨ga, 2, none⟩ (.int .i64 ((wa : Int) + wb))).setCell ⟨ga, 3, none⟩ (.bool true)) (ga + 1) 58 #[.int .i64 op, .int .i64 rb, .int .i64 wb, .bool cb, .int .u64 (H zb), .int .u64 (L zb), .int .i64 nb, .int .i64 bk, .int .i64 bi, .string bs] := by
          repeat (first | with_reducible exact HB1.out | refine Blok.far ?_ (by simp) _)
        have bz : Blok (((w1.setCell ⟨ga, 1, none⟩ (.int .i64 ((ra : Int) + rb))).setCell ⟨ga, 2, none⟩ (.int .i64 ((wa : Int) + wb))).setCell ⟨ga, 3, none⟩ (.bool true)) (ga + 1 + 1) 58 #[.int .i64 0, .int .i64 0, .int .i64 0, .bool false, .int .u64 0, .int .u64 0, .int .i64 0, .int .i64 0, .int .i64 0, .string ⟨#[]⟩] := by
          repeat (first | with_reducible exact HZ1.out | refine Blok.far ?_ (by simp <;> omega) _)
        have bg : Grew w (((w1.setCell ⟨ga, 1, none⟩ (.int .i64 ((ra : Int) + rb))).setCell ⟨ga, 2, none⟩ (.int .i64 ((wa : Int) + wb))).setCell ⟨ga, 3, none⟩ (.bool true)) := by
          repeat (first | with_reducible exact HG1.out | refine Grew.setCell ?_ (by rw [HGA.out]; exact Nat.le_refl _) _)
        have HA2 := Lib.hid (ba.grew hg)
        have HB2 := Lib.hid (bv.grew hg)
        have HZ2 := Lib.hid (bz.grew hg)
        have HG2 := Lib.hid (bg.trans hg)
        clear hg ba bv bz bg HA1 HB1 HZ1 HG1
        clear la a0 a1 a2 a3 a4 a5 a6 a7 a8 a9 b0 b1 b2 b3 b4 b5 b6 b7 b8 b9 lb v0 v1 v2 v3 v4 v5 v6 v7 v8 v9 lz z0 z1 z2 z3 z4 z5 z6 z7 z8 z9 y0 y1 y2 y3 y4 y5 y6 y7 y8 y9
        obtain ⟨la, a0, a1, a2, a3, a4, a5, a6, a7, a8, a9⟩ := acc_in HA2.out
        obtain ⟨b0, b1, b2, b3, b4, b5, b6, b7, b8, b9⟩ := acc_th HA2.out
        obtain ⟨lb, v0, v1, v2, v3, v4, v5, v6, v7, v8, v9⟩ := acc_in HB2.out
        obtain ⟨lz, z0, z1, z2, z3, z4, z5, z6, z7, z8, z9⟩ := acc_in HZ2.out
        obtain ⟨y0, y1, y2, y3, y4, y5, y6, y7, y8, y9⟩ := acc_th HZ2.out
        go_wp2
        have bz : Blok (((w2.setCell ⟨ga, 4, none⟩ (.int .u64 (H (za + zb)))).setCell ⟨ga, 5, none⟩ (.int .u64 (L (za + zb)))).setCell ⟨ga, 6, none⟩ (.int .i64 ((na : Int) + nb))) (ga + 1 + 1) 58 #[.int .i64 0, .int .i64 0, .int .i64 0, .bool false, .int .u64 0, .int .u64 0, .int .i64 0, .int .i64 0, .int .i64 0, .string ⟨#[]⟩] := by
          repeat (first | with_reducible exact HZ2.out | refine Blok.far ?_ (by simp <;> omega) _)
        have bg : Grew w (((w2.setCell ⟨ga, 4, none⟩ (.int .u64 (H (za + zb)))).setCell ⟨ga, 5, none⟩ (.int .u64 (L (za + zb)))).setCell ⟨ga, 6, none⟩ (.int .i64 ((na : Int) + nb))) := by
          repeat (first | with_reducible exact HG2.out | refine Grew.setCell ?_ (by rw [HGA.out]; exact Nat.le_refl _) _)
        have hb := acc_set bz (.int .i64 op) (.int .i64 ((ra : Int) + rb)) (.int .i64 ((wa : Int) + wb)) (.bool true) (.int .u64 (H (za + zb))) (.int .u64 (L (za + zb))) (.int .i64 ((na : Int) + nb)) (.int .i64 ak) (.int .i64 ai) (.string as_)
        obtain ⟨_, r0, r1, r2, r3, r4, r5, r6, r7, r8, r9⟩ := acc_in hb
        exact bodyPost_ret (v := .agg #[.int .i64 op, .int .i64 ((ra : Int) + rb), .int .i64 ((wa : Int) + wb), .bool true, .int .u64 (H (za + zb)), .int .u64 (L (za + zb)), .int .i64 ((na : Int) + nb), .int .i64 ak, .int .i64 ai, .string as_]) (by simp [results, Try.results38, go_sem, r0, r1, r2, r3, r4, r5, r6, r7, r8, r9]) rfl ⟨rfl, grew_set10 bg (by rw [HGA.out]; omega) _ _ _ _ _ _ _ _ _ _⟩
end Go.Proofs.Ytddambfniaiogaa
