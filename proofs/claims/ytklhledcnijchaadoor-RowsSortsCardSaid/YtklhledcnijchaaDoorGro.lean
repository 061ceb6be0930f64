/- Worlds that have grown and drawn on, no less: what the library's sort asks of an order; rows.Order so. Condition: rows that lie in memory that is there. -/
import Derived.Test.YtklhledcnijchaaDoorOrd4
import Derived.Test.YtklhledcnijchaaDoorHeld
import Derived.Sort.Grow
namespace Go.Proofs.YtklhledcnijchaaDoor
open Go.RowKit
attribute [local go_sem] more_cell more_frozen more_more more_setCell more_of_drew more_of_drewN lt_more le_more past_cell past_cell2 past_frozen past_frozen2 past_setCell past_setCell2 mid_cell mid_frozen mid_setCell
attribute [local go_sem ↓] Go.wp_at_zero Go.wp_at_succ

/-- Grown, and drawn on. -/
def Gro (w w' : World) : Prop := ∃ (q : Nat) (os : Array Obj), w' = Sort.grow (w.drewN q) os
theorem Gro.refl (w : World) : Gro w w := ⟨0, #[], (Sort.grow_empty w).symm⟩
theorem Gro.drew {w w' : World} (h : Gro w w') : Gro w w'.drew := by
  obtain ⟨q, os, rfl⟩ := h
  exact ⟨q + 1, os, rfl⟩
theorem Gro.alloc {w w' : World} (h : Gro w w') (o : Obj) : Gro w (w'.alloc o) := by
  obtain ⟨q, os, rfl⟩ := h
  exact ⟨q, os ++ #[o], by rw [Sort.alloc_eq_grow, Sort.grow_grow]⟩
theorem drewN_two (w : World) (q q' : Nat) : (w.drewN q).drewN q' = w.drewN (q + q') := by
  unfold World.drewN
  rw [Nat.add_assoc]
theorem Gro.trans {a b c : World} (h : Gro a b) (k : Gro b c) : Gro a c := by
  obtain ⟨q, os, rfl⟩ := h
  obtain ⟨q', os', rfl⟩ := k
  exact ⟨q + q', os ++ os', by rw [← Sort.grow_grow, ← drewN_two]; rfl⟩
theorem Gro.grew {w w' : World} (h : Gro w w') : Grew w w' := by
  obtain ⟨q, os, rfl⟩ := h
  exact ⟨⟨os, w.drawn + q⟩, rfl⟩
set_option maxHeartbeats 1000000 in
theorem order_gro (k i : Int) (s : ByteArray) (k' i' : Int) (s' : ByteArray) (w : World) :
    Calls Tryd.prog 49 #[.agg #[.int .i64 k, .int .i64 i, .string s], .agg #[.int .i64 k', .int .i64 i', .string s']] w fun e w' => e = .returned (.int .i64 (ordV k i s k' i' s')) ∧ Gro w w' := by
  go_enter Tryd.func49, Tryd.ntmps49
  go_wp2
  go_region_held3 (fun w' => w'.cell? ⟨w.heap.size, 0, none⟩ = some (.int .i64 k) ∧ w'.cell? ⟨w.heap.size, 1, none⟩ = some (.int .i64 i) ∧ w'.cell? ⟨w.heap.size, 2, none⟩ = some (.string s) ∧ w'.cell? ⟨w.heap.size + 1, 0, none⟩ = some (.int .i64 k') ∧ w'.cell? ⟨w.heap.size + 1, 1, none⟩ = some (.int .i64 i') ∧ w'.cell? ⟨w.heap.size + 1, 2, none⟩ = some (.string s')) (go_keep)
    (first | (go_at_call 50; refine (compare_any _ _ _).mono ?_; rintro e w' ⟨rfl, rfl⟩) | (go_at_call 75; refine (Tryd.strings_Compare _ _ _).mono ?_; rintro e w' ⟨rfl, rfl⟩) | (go_at_call 74; refine (or_any (ordI k k') (ordI i i') (Lib.compareBytes s.data.toList s'.data.toList) _ _ (by go_simp) (by go_simp) (by go_simp)).mono ?_; rintro e w' ⟨rfl, rfl⟩))
  all_goals
    go_wp2
    go_ret
    exact ⟨congrArg Ending.returned (congrArg (Value.int IntKind.i64) (ordV_or k i s k' i' s').symm), by show Gro w _; repeat (first | exact Gro.refl _ | apply Gro.drew | apply Gro.alloc)⟩
def Or4Gro (w : World) (l l' : List Vl) (m : Nat) (r : Int) (x : Value) (wr : World) : Prop := ∃ i : Nat, i ≤ m ∧ x = .int .i64 (i : Int) ∧ Gro w wr ∧ ordRow (l.drop i) (l'.drop i) = r
set_option maxHeartbeats 2000000 in
set_option maxRecDepth 100000 in
theorem rowsOrder_gro (l l' : List Vl) (A B : Option Addr) (k j : Nat) (hs : l.length ≤ 140737488355328) (w : World) (ra : VlsR (PRow w) A l) (rb : VlsR (PRow w) B l') :
    Calls Tryd.prog 13 #[.slice A l.length k, .slice B l'.length j] w fun e w' => e = .returned (.int .i64 (ordRow l l')) ∧ Gro w w' := by
  have RA := Lib.hid ra
  have RB := Lib.hid rb
  obtain ⟨r, hr⟩ : ∃ r, ordRow l l' = r := ⟨_, rfl⟩
  have HR0 : Hid (ordRow (l.drop 0) (l'.drop 0) = r) := Lib.hid hr
  rw [hr]
  obtain ⟨m, hm, hm1, hm2, hm3⟩ : ∃ m : Nat, min (l.length : Int) (l'.length : Int) = (m : Int) ∧ m ≤ l.length ∧ m ≤ l'.length ∧ (l.length = m ∨ l'.length = m) := by
    by_cases h : l.length ≤ l'.length
    · exact ⟨l.length, by omega, Nat.le_refl _, h, Or.inl rfl⟩
    · exact ⟨l'.length, by omega, by omega, Nat.le_refl _, Or.inr rfl⟩
  clear ra rb hr
  go_enter Tryd.func13, Tryd.ntmps13
  go_wp2
  go_loopw [12] (fun x wr => Or4Gro w l l' m r x wr) (fun x _ => m - (intOf x).toNat)
  case atStart => exact ⟨0, Nat.zero_le _, rfl, Gro.refl w, HR0.out⟩
  case round =>
    obtain ⟨i, hi, rfl, hg, hk⟩ := hrel
    have HG := Lib.hid hg
    have HK := Lib.hid hk
    clear hg hk HR0
    by_cases h : i < m
    · have h1 : i < l.length := by omega
      have h2 : i < l'.length := by omega
      have e0 : decide ((i : Int) < (m : Int)) = true := decide_eq_true (by omega)
      have hil : (i : Int) < (l.length : Int) := by omega
      have hil2 : (i : Int) < (l'.length : Int) := by omega
      obtain ⟨b, o, rfl, hb, c0', c1', c2'⟩ := vlsR_at (RA.out.grew HG.out.grew) h1
      obtain ⟨b', o', rfl, hb', d0', d1', d2'⟩ := vlsR_at (RB.out.grew HG.out.grew) h2
      have HS := Lib.hid (HK.out.symm.trans (ordRow_drop h1 h2))
      have HC : Hid (∀ W, Calls Tryd.prog 49 #[.agg #[.int .i64 l[i].k, .int .i64 l[i].i, .string l[i].s], .agg #[.int .i64 l'[i].k, .int .i64 l'[i].i, .string l'[i].s]] W fun e w' => e = .returned (.int .i64 (ordV l[i].k l[i].i l[i].s l'[i].k l'[i].i l'[i].s)) ∧ Gro W w') := Lib.hid fun W => order_gro _ _ _ _ _ _ _
      generalize ordV l[i].k l[i].i l[i].s l'[i].k l'[i].i l'[i].s = q at *
      generalize l[i].k = xk at *
      generalize l[i].i = xi at *
      generalize l[i].s = xs at *
      generalize l'[i].k = yk at *
      generalize l'[i].i = yi at *
      generalize l'[i].s = ys at *
      have HCl : Hid (∀ W, Gro wr W → W.cell? ⟨b, o + i * 3, none⟩ = some (.int .i64 xk) ∧ W.cell? ⟨b, o + i * 3 + 1, none⟩ = some (.int .i64 xi) ∧ W.cell? ⟨b, o + i * 3 + 2, none⟩ = some (.string xs) ∧ W.cell? ⟨b', o' + i * 3, none⟩ = some (.int .i64 yk) ∧ W.cell? ⟨b', o' + i * 3 + 1, none⟩ = some (.int .i64 yi) ∧ W.cell? ⟨b', o' + i * 3 + 2, none⟩ = some (.string ys)) := Lib.hid fun W hW => ⟨(hW.grew.cell (a := ⟨b, o + i * 3, none⟩) hb).trans c0', (hW.grew.cell (a := ⟨b, o + i * 3 + 1, none⟩) hb).trans c1', (hW.grew.cell (a := ⟨b, o + i * 3 + 2, none⟩) hb).trans c2', (hW.grew.cell (a := ⟨b', o' + i * 3, none⟩) hb').trans d0', (hW.grew.cell (a := ⟨b', o' + i * 3 + 1, none⟩) hb').trans d1', (hW.grew.cell (a := ⟨b', o' + i * 3 + 2, none⟩) hb').trans d2'⟩
      clear HK c0' c1' c2' d0' d1' d2'
      go_upto_region 4 with fail
      refine wp_region_S (fun W => Gro wr W) (by kernel_rfl) ?_
      refine held_take 0 (v := ?_) rfl (by kernel_rfl) (by kernel_rfl) (by kernel_rfl) (fun _ _ _ h => h) (by rfl) ?_ (Gro.refl wr).drew ?_
      rotate_left
      · (intro W hW; obtain ⟨c0, c1, c2, d0, d1, d2⟩ := HCl.out W hW; go_simp; with_reducible rfl)
      refine held_take 1 (v := ?_) rfl (by kernel_rfl) (by kernel_rfl) (by kernel_rfl) (fun _ _ _ h => h) (by rfl) ?_ (Gro.refl wr).drew ?_
      rotate_left
      · (intro W hW; obtain ⟨c0, c1, c2, d0, d1, d2⟩ := HCl.out W hW; go_simp; with_reducible rfl)
      refine held_take 2 (v := ?_) rfl (by kernel_rfl) (by kernel_rfl) (by kernel_rfl) (fun _ _ _ h => h) (by rfl) ?_ (Gro.refl wr).drew ?_
      rotate_left
      · (intro W hW; obtain ⟨c0, c1, c2, d0, d1, d2⟩ := HCl.out W hW; go_simp; with_reducible rfl)
      refine held_take 3 (v := ?_) rfl (by kernel_rfl) (by kernel_rfl) (by kernel_rfl) (fun _ _ _ h => h) (by rfl) ?_ (Gro.refl wr).drew ?_
      rotate_left
      · (intro W hW; obtain ⟨c0, c1, c2, d0, d1, d2⟩ := HCl.out W hW; go_simp; with_reducible rfl)
      refine held_take 4 (v := ?_) rfl (by kernel_rfl) (by kernel_rfl) (by kernel_rfl) (fun _ _ _ h => h) (by rfl) ?_ (Gro.refl wr).drew ?_
      rotate_left
      · (intro W hW; obtain ⟨c0, c1, c2, d0, d1, d2⟩ := HCl.out W hW; go_simp; with_reducible rfl)
      refine held_take 5 (v := ?_) rfl (by kernel_rfl) (by kernel_rfl) (by kernel_rfl) (fun _ _ _ h => h) (by rfl) ?_ (Gro.refl wr).drew ?_
      rotate_left
      · (intro W hW; obtain ⟨c0, c1, c2, d0, d1, d2⟩ := HCl.out W hW; go_simp; with_reducible rfl)
      refine held_take 6 (v := ?_) rfl (by kernel_rfl) (by kernel_rfl) (by kernel_rfl) (fun _ _ _ h => h) (by rfl) ?_ (Gro.refl wr).drew ?_
      rotate_left
      · (intro W hW; obtain ⟨c0, c1, c2, d0, d1, d2⟩ := HCl.out W hW; go_simp; with_reducible rfl)
      refine held_take 7 (v := ?_) rfl (by kernel_rfl) (by kernel_rfl) (by kernel_rfl) (fun _ _ _ h => h) (by rfl) ?_ (Gro.refl wr).drew ?_
      rotate_left
      · (intro W hW; obtain ⟨c0, c1, c2, d0, d1, d2⟩ := HCl.out W hW; go_simp; with_reducible rfl)
      refine held_norm (a' := ?_) ?_ ?_
      rotate_left
      · (go_simp; with_reducible rfl)
      refine held_call 8 (by kernel_rfl) rfl (by rfl) (fun K hK => ?_)
      go_simp
      go_wp2_with (go_at_call 49; (with_reducible refine (HC.out _).mono ?_); rintro e w2 ⟨rfl, hg2⟩; have HG2 := Lib.hid (show Gro wr w2 from ((Gro.refl wr).drew).trans hg2); clear hg2)
      refine hK.out _ _ HG2.out ?_
      clear hK K
      refine held_take 9 (v := ?_) rfl (by kernel_rfl) (by kernel_rfl) (by kernel_rfl) (fun _ _ _ h => h) (by rfl) ?_ HG2.out ?_
      rotate_left
      · (intro W hW; go_simp; with_reducible rfl)
      refine held_norm (a' := ?_) ?_ ?_
      rotate_left
      · (go_simp; with_reducible rfl)
      refine held_done (by kernel_rfl) ?_
      have HG3 := Lib.hid (HG.out.trans HG2.out)
      clear HG HG2 HCl HC
      by_cases hq : q = 0
      · have HS2 : Hid (ordRow (l.drop (i + 1)) (l'.drop (i + 1)) = r) := Lib.hid (by rw [HS.out, if_pos hq])
        subst hq
        go_wp2
        exact ⟨⟨i + 1, by omega, by go_num, HG3.out, HS2.out⟩, by simp only [intOf]; omega⟩
      · obtain rfl : r = q := by rw [HS.out, if_neg hq]
        have hq2 : (r != 0) = true := by rw [bne_iff_ne]; exact hq
        go_wp2
        go_ret
        exact ⟨rfl, HG3.out⟩
    · obtain rfl : i = m := by omega
      have e0 : decide ((i : Int) < (i : Int)) = false := decide_eq_false (by omega)
      have HE := Lib.hid (HK.out.symm.trans (ordRow_end hm1 hm2 hm3))
      have HC := Lib.hid (fun W => Tryd.cmp_Compare_int (l.length : Int) (l'.length : Int) W)
      rw [← HE.out] at HC
      clear HE HK
      go_wp2_with (go_at_call 50; (with_reducible refine (HC.out _).mono ?_); rintro e w5 ⟨rfl, hw5⟩; have hw6 := hw5.symm; subst hw6)
      go_ret
      exact ⟨rfl, HG.out⟩
end Go.Proofs.YtklhledcnijchaaDoor
