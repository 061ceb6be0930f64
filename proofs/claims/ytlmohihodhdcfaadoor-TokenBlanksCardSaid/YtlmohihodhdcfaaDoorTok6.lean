/- Layer 7: the token that stands at a place. Condition: a text of no more than a million bytes; the library's table of how long a search may be holds a number. -/
import Derived.Test.YtlmohihodhdcfaaDoorTok5
import Derived.Deep.DeepCutAuto
namespace Go.Proofs.YtlmohihodhdcfaaDoor
open Go.RowKit
attribute [local go_sem] more_cell more_frozen more_more more_setCell more_of_drew more_of_drewN lt_more le_more past_cell past_cell2 past_frozen past_frozen2 past_setCell past_setCell2 mid_cell mid_frozen mid_setCell
attribute [local go_sem ↓] Go.wp_at_zero Go.wp_at_succ

theorem tquote_any (s : ByteArray) (hs : s.size ≤ 100000) (w : World) (hw : MaxW w) : Gives Tryd.prog 18 #[.string s] w (.string ⟨(39 :: (qq (bl s) ++ [39])).toArray⟩) := by
  have HR := Lib.hid (rep_q s (by omega) w hw)
  have hl := (qq_len (bl s)).2
  rw [bl_len] at hl
  generalize qq (bl s) = q at *
  have hq : (⟨q.toArray⟩ : ByteArray).size ≤ 200000 := by rw [mk_size]; omega
  have HE : Hid ((⟨#[39]⟩ : ByteArray) ++ ⟨q.toArray⟩ ++ ⟨#[39]⟩ = ⟨(39 :: (q ++ [39])).toArray⟩) := Lib.hid (bl_ext (by rw [bl_append, bl_append, bl_mk, bl_mk]; rfl))
  obtain ⟨fin, hfin⟩ : ∃ fin, (⟨(39 :: (q ++ [39])).toArray⟩ : ByteArray) = fin := ⟨_, rfl⟩
  rw [hfin] at HE ⊢
  clear hfin hl
  generalize (⟨q.toArray⟩ : ByteArray) = x at *
  unfold Gives
  go_enter Tryd.func18, Tryd.ntmps18
  go_wp2_with (go_at_call 28; (with_reducible refine HR.out.grows.mono ?_); rintro e w2 ⟨rfl, hg2⟩; have HG := Lib.hid hg2; clear hg2)
  go_ret
  exact ⟨congrArg (fun x => Ending.returned (Value.string x)) HE.out, HG.out⟩
set_option maxHeartbeats 1000000 in
set_option maxRecDepth 100000 in
theorem quoted7_any (s : ByteArray) (hs : s.size ≤ 1000000) (h1 : 1 ≤ s.size) (w : World) (hw : MaxW w) : Gives Tryd.prog 33 #[.string s] w (trV (textT (bl s))) := by
  have HC := Lib.hid (closed7_any s hs h1)
  cases hu : unq ((bl s).drop 1) with
  | none =>
    have ht : textT (bl s) = errT 1 := by unfold textT; rw [hu]
    rw [closedN_none hu] at HC
    rw [ht]
    clear hu ht
    unfold Gives
    go_enter Tryd.func33, Tryd.ntmps33
    go_wp2_with ((go_at_call 37; (with_reducible refine (HC.out _).grows.mono ?_); rintro e w2 ⟨rfl, hg2⟩; have HG := Lib.hid (((Grew.refl w).alloc _).trans hg2); have HB : Hid (Blok w2 w.heap.size 33 #[.int .i64 0, .string ⟨#[]⟩, .int .i64 0, .int .i64 0]) := Lib.hid ((Blok.new _ _ _ _ rfl).grew hg2); obtain ⟨z0, z1, z2, z3, z4, z5, z6, z7, z8⟩ := tk_in HB.out; clear hg2))
    have hb := tk_set HB.out (.int .i64 0) (.string ⟨#[]⟩) (.int .i64 0) (.int .i64 0)
    obtain ⟨_, r0, r1, r2, r3, _, _, _, _⟩ := tk_in hb
    exact bodyPost_ret (v := .tuple #[.agg #[.int .i64 0, .string ⟨#[]⟩, .int .i64 0, .int .i64 0], .int .i64 0, .int .i64 1]) (by simp [results, Tryd.results33, go_sem, r0, r1, r2, r3]) rfl ⟨rfl, grew_tk HG.out (Nat.le_refl _) _ _ _ _⟩
  | some r =>
    obtain ⟨t, n⟩ := r
    obtain ⟨q1, q2, q3⟩ := unq_some _ _ (Nat.le_refl _) t n hu
    rw [closedN_some hu] at HC
    have hn : n + 1 ≤ s.size := by
      have e : ((bl s).drop 1).length = (qq t).length + 1 + (((bl s).drop 1).drop n).length := by
        conv => lhs; rw [q1]
        simp
        omega
      rw [List.length_drop, bl_len] at e
      omega
    have hx : bl (s.extract 1 n) = qq t := by
      rw [bl_extract, q1, q2, Nat.add_sub_cancel]
      simp
    have htl := (qq_len t).1
    have ht : textT (bl s) = if 65536 < t.length then errT 4 else ⟨4, t, 0, n + 1, 0⟩ := by unfold textT; rw [hu]
    rw [ht]
    have hn1 : 1 ≤ n := by omega
    have HRep : Hid (∀ W, Grew w W → Gives Tryd.prog 28 #[.string (s.extract 1 n), .string ⟨#[39, 39]⟩, .string ⟨#[39]⟩] W (.string ⟨t.toArray⟩)) := Lib.hid fun W hW => rep_u _ t hx (by rw [ByteArray.size_extract]; omega) W (hw.grew hW)
    have hsz : (⟨t.toArray⟩ : ByteArray).size = t.length := mk_size t
    have e1 : IntKind.i64.wrap ((n : Int) + 1 - 1) = (n : Int) := by rw [IntWalk.i64_in _ (by omega)]; omega
    clear hu q1 q2 q3 hx ht htl
    unfold Gives
    by_cases hb : 65536 < t.length
    · rw [if_pos hb]
      go_enter Tryd.func33, Tryd.ntmps33
      go_wp2_with (first | (go_at_call 37; (with_reducible refine (HC.out _).grows.mono ?_); rintro e w2 ⟨rfl, hg2⟩; have HG := Lib.hid (((Grew.refl w).alloc _).trans hg2); have HB : Hid (Blok w2 w.heap.size 33 #[.int .i64 0, .string ⟨#[]⟩, .int .i64 0, .int .i64 0]) := Lib.hid ((Blok.new _ _ _ _ rfl).grew hg2); obtain ⟨z0, z1, z2, z3, z4, z5, z6, z7, z8⟩ := tk_in HB.out; clear hg2) | (go_at_call 28; (with_reducible refine (HRep.out _ HG.out).grows.mono ?_); rintro e w3 ⟨rfl, hg3⟩; have HG3 := Lib.hid (HG.out.trans hg3); have HB3 := Lib.hid (HB.out.grew hg3); clear z0 z1 z2 z3 z4 z5 z6 z7 z8; obtain ⟨z0, z1, z2, z3, z4, z5, z6, z7, z8⟩ := tk_in HB3.out; clear hg3))
      have hb := tk_set HB3.out (.int .i64 0) (.string ⟨#[]⟩) (.int .i64 0) (.int .i64 0)
      obtain ⟨_, r0, r1, r2, r3, _, _, _, _⟩ := tk_in hb
      exact bodyPost_ret (v := .tuple #[.agg #[.int .i64 0, .string ⟨#[]⟩, .int .i64 0, .int .i64 0], .int .i64 0, .int .i64 4]) (by simp [results, Tryd.results33, go_sem, r0, r1, r2, r3]) rfl ⟨rfl, grew_tk HG3.out (Nat.le_refl _) _ _ _ _⟩
    · rw [if_neg hb]
      have hb' : (t.length : Int) ≤ 65536 := by omega
      have hbd : decide ((65536 : Int) < (t.length : Int)) = false := by simpa using hb'
      have h2 : ((n + 1 : Nat) : Int) = (n : Int) + 1 := by omega
      go_enter Tryd.func33, Tryd.ntmps33
      go_wp2_with (first | (go_at_call 37; (with_reducible refine (HC.out _).grows.mono ?_); rintro e w2 ⟨rfl, hg2⟩; have HG := Lib.hid (((Grew.refl w).alloc _).trans hg2); have HB : Hid (Blok w2 w.heap.size 33 #[.int .i64 0, .string ⟨#[]⟩, .int .i64 0, .int .i64 0]) := Lib.hid ((Blok.new _ _ _ _ rfl).grew hg2); obtain ⟨z0, z1, z2, z3, z4, z5, z6, z7, z8⟩ := tk_in HB.out; clear hg2) | (go_at_call 28; (with_reducible refine (HRep.out _ HG.out).grows.mono ?_); rintro e w3 ⟨rfl, hg3⟩; have HG3 := Lib.hid (HG.out.trans hg3); have HB3 := Lib.hid (HB.out.grew hg3); clear z0 z1 z2 z3 z4 z5 z6 z7 z8; obtain ⟨z0, z1, z2, z3, z4, z5, z6, z7, z8⟩ := tk_in HB3.out; clear hg3))
      have hb := tk_set HB3.out (.int .i64 4) (.string ⟨t.toArray⟩) (.int .i64 0) (.int .i64 0)
      obtain ⟨_, r0, r1, r2, r3, _, _, _, _⟩ := tk_in hb
      exact bodyPost_ret (v := .tuple #[.agg #[.int .i64 4, .string ⟨t.toArray⟩, .int .i64 0, .int .i64 0], .int .i64 (n + 1 : Nat), .int .i64 0]) (by simp [results, Tryd.results33, go_sem, r0, r1, r2, r3]) rfl ⟨rfl, grew_tk HG3.out (Nat.le_refl _) _ _ _ _⟩
theorem hereT_cons {s : ByteArray} {a : Nat} (h : a < s.size) : hereT ((bl s).drop a) = if letterB s[a] then wordT ((bl s).drop a) else if digitB s[a] then numT ((bl s).drop a) else if s[a].toNat = 39 then textT ((bl s).drop a) else signT ((bl s).drop a) := by
  have hl : a < (bl s).length := by rw [bl_len]; exact h
  rw [List.drop_eq_getElem_cons hl]
  unfold hereT
  simp only [bl_get h]
  rfl
set_option maxHeartbeats 1000000 in
set_option maxRecDepth 100000 in
theorem here7_any (s : ByteArray) (a : Nat) (ha : a ≤ s.size) (hs : s.size ≤ 1000000) (w : World) (hw : MaxW w) : Gives Tryd.prog 22 #[.string s, .int .i64 a] w (trV (hereT ((bl s).drop a))) := by
  rcases Nat.lt_or_ge a s.size with hlt | hge
  · rw [hereT_cons hlt]
    have hbx : bl (s.extract a s.size) = (bl s).drop a := by rw [ext_drop, bl_mk]
    have hxs : (s.extract a s.size).size ≤ 1000000 := by rw [ByteArray.size_extract]; omega
    have hx1 : 1 ≤ (s.extract a s.size).size := by rw [ByteArray.size_extract]; omega
    have HWd := Lib.hid (fun W => word7_any (s.extract a s.size) W)
    have HNm := Lib.hid (fun W => number7_any (s.extract a s.size) hxs W)
    have HQt : Hid (∀ W, Grew w W → Gives Tryd.prog 33 #[.string (s.extract a s.size)] W (trV (textT (bl (s.extract a s.size))))) := Lib.hid (fun W hW => quoted7_any (s.extract a s.size) hxs hx1 W (hw.grew hW))
    have HSg := Lib.hid (fun W => sign7_in s a hlt hs W)
    rw [hbx] at HWd HNm HQt
    have HSd : Hid (signT ((bl s).drop a) = if signP ((bl s).drop a) = [] then errT 1 else ⟨5, signP ((bl s).drop a), 0, (signP ((bl s).drop a)).length, 0⟩) := Lib.hid rfl
    clear hbx hxs hx1 hw
    generalize (bl s).drop a = l at *
    have hne : ((a : Int) == (s.size : Int)) = false := by rw [beq_eq_false_iff_ne]; omega
    have HL := Lib.hid (tletter_any (s[a]'hlt))
    have HD := Lib.hid (tdigit_any (s[a]'hlt))
    cases hlet : letterB (s[a]'hlt)
    · rw [if_neg (by simp)]
      rw [hlet] at HL
      cases hdig : digitB (s[a]'hlt)
      · rw [if_neg (by simp)]
        rw [hdig] at HD
        by_cases h39 : (s[a]'hlt).toNat = 39
        · rw [if_pos h39]
          have h39' : (((s[a]'hlt).toNat : Int) == 39) = true := by rw [h39]; rfl
          generalize textT l = r at *
          clear HSd HSg HWd HNm h39
          unfold trV at *
          go_enter Tryd.func22, Tryd.ntmps22
          go_wp2_with (first | (go_at_call 29; (with_reducible refine (HL.out _).mono ?_); rintro e w9 ⟨rfl, hw9⟩; subst hw9) | (go_at_call 31; (with_reducible refine (HD.out _).mono ?_); rintro e w9 ⟨rfl, hw9⟩; subst hw9) | (go_at_call 33; (with_reducible refine (HQt.out _ ((Grew.refl w).alloc _)).grows.mono ?_); rintro e w2 ⟨rfl, hg2⟩; have HG := Lib.hid (((Grew.refl w).alloc _).trans hg2); have HB : Hid (Blok w2 w.heap.size 33 #[.int .i64 0, .string ⟨#[]⟩, .int .i64 0, .int .i64 0]) := Lib.hid ((Blok.new _ _ _ _ rfl).grew hg2); obtain ⟨z0, z1, z2, z3, z4, z5, z6, z7, z8⟩ := tk_in HB.out; clear hg2))
          have hb := tk_set HB.out (.int .i64 r.k) (.string ⟨r.t.toArray⟩) (.int .i64 r.i) (.int .i64 0)
          obtain ⟨_, r0, r1, r2, r3, _, _, _, _⟩ := tk_in hb
          exact bodyPost_ret (v := .tuple #[.agg #[.int .i64 r.k, .string ⟨r.t.toArray⟩, .int .i64 r.i, .int .i64 0], .int .i64 r.n, .int .i64 r.e]) (by simp [results, Tryd.results22, go_sem, r0, r1, r2, r3]) rfl ⟨rfl, grew_tk HG.out (Nat.le_refl _) _ _ _ _⟩
        · rw [if_neg h39, HSd.out]
          have h39' : (((s[a]'hlt).toNat : Int) == 39) = false := by rw [beq_eq_false_iff_ne]; omega
          clear HSd HWd HNm HQt h39
          by_cases he : signP l = []
          · rw [if_pos he]
            rw [he] at HSg
            clear he
            unfold trV errT
            go_enter Tryd.func22, Tryd.ntmps22
            go_wp2_with (first | (go_at_call 29; (with_reducible refine (HL.out _).mono ?_); rintro e w9 ⟨rfl, hw9⟩; subst hw9) | (go_at_call 31; (with_reducible refine (HD.out _).mono ?_); rintro e w9 ⟨rfl, hw9⟩; subst hw9) | (go_at_call 14; (with_reducible refine (HSg.out _).mono ?_); rintro e w9 ⟨rfl, hw9⟩; subst hw9))
            have hb : Blok (w.alloc (.cells #[.int .i64 0, .string ⟨#[]⟩, .int .i64 0, .int .i64 0] 33)) w.heap.size 33 #[.int .i64 0, .string ⟨#[]⟩, .int .i64 0, .int .i64 0] := Blok.new _ _ _ _ rfl
            obtain ⟨_, r0, r1, r2, r3, _, _, _, _⟩ := tk_in hb
            exact bodyPost_ret (v := .tuple #[.agg #[.int .i64 0, .string ⟨#[]⟩, .int .i64 0, .int .i64 0], .int .i64 0, .int .i64 1]) (by simp [results, Tryd.results22, go_sem, r0, r1, r2, r3]) rfl ⟨rfl, (Grew.refl w).alloc _⟩
          · rw [if_neg he]
            have he' : (signP l == []) = false := by rw [beq_eq_false_iff_ne]; exact he
            have he2 : (signP l).isEmpty = false := by cases hg : signP l with
              | nil => exact absurd hg he
              | cons _ _ => rfl
            have hsz : (⟨(signP l).toArray⟩ : ByteArray).size = (signP l).length := mk_size _
            clear he
            generalize signP l = g at *
            unfold trV
            go_enter Tryd.func22, Tryd.ntmps22
            go_wp2_with (first | (go_at_call 29; (with_reducible refine (HL.out _).mono ?_); rintro e w9 ⟨rfl, hw9⟩; subst hw9) | (go_at_call 31; (with_reducible refine (HD.out _).mono ?_); rintro e w9 ⟨rfl, hw9⟩; subst hw9) | (go_at_call 14; (with_reducible refine (HSg.out _).mono ?_); rintro e w9 ⟨rfl, hw9⟩; subst hw9))
            have hb : Blok (w.alloc (.cells #[.int .i64 5, .string ⟨g.toArray⟩, .int .i64 0, .int .i64 0] 33)) w.heap.size 33 #[.int .i64 5, .string ⟨g.toArray⟩, .int .i64 0, .int .i64 0] := Blok.new _ _ _ _ rfl
            obtain ⟨_, r0, r1, r2, r3, _, _, _, _⟩ := tk_in hb
            exact bodyPost_ret (v := .tuple #[.agg #[.int .i64 5, .string ⟨g.toArray⟩, .int .i64 0, .int .i64 0], .int .i64 g.length, .int .i64 0]) (by simp [results, Tryd.results22, go_sem, r0, r1, r2, r3]) rfl ⟨rfl, (Grew.refl w).alloc _⟩
      · rw [if_pos rfl]
        rw [hdig] at HD
        generalize numT l = r at *
        clear HSd HSg HWd HQt
        unfold trV at *
        go_enter Tryd.func22, Tryd.ntmps22
        go_wp2_with (first | (go_at_call 29; (with_reducible refine (HL.out _).mono ?_); rintro e w9 ⟨rfl, hw9⟩; subst hw9) | (go_at_call 31; (with_reducible refine (HD.out _).mono ?_); rintro e w9 ⟨rfl, hw9⟩; subst hw9) | (go_at_call 32; (with_reducible refine (HNm.out _).grows.mono ?_); rintro e w2 ⟨rfl, hg2⟩; have HG := Lib.hid (((Grew.refl w).alloc _).trans hg2); have HB : Hid (Blok w2 w.heap.size 33 #[.int .i64 0, .string ⟨#[]⟩, .int .i64 0, .int .i64 0]) := Lib.hid ((Blok.new _ _ _ _ rfl).grew hg2); obtain ⟨z0, z1, z2, z3, z4, z5, z6, z7, z8⟩ := tk_in HB.out; clear hg2))
        have hb := tk_set HB.out (.int .i64 r.k) (.string ⟨r.t.toArray⟩) (.int .i64 r.i) (.int .i64 0)
        obtain ⟨_, r0, r1, r2, r3, _, _, _, _⟩ := tk_in hb
        exact bodyPost_ret (v := .tuple #[.agg #[.int .i64 r.k, .string ⟨r.t.toArray⟩, .int .i64 r.i, .int .i64 0], .int .i64 r.n, .int .i64 r.e]) (by simp [results, Tryd.results22, go_sem, r0, r1, r2, r3]) rfl ⟨rfl, grew_tk HG.out (Nat.le_refl _) _ _ _ _⟩
    · rw [if_pos rfl]
      rw [hlet] at HL
      generalize wordT l = r at *
      clear HSd HSg HNm HQt
      unfold trV at *
      go_enter Tryd.func22, Tryd.ntmps22
      go_wp2_with (first | (go_at_call 29; (with_reducible refine (HL.out _).mono ?_); rintro e w9 ⟨rfl, hw9⟩; subst hw9) | (go_at_call 30; (with_reducible refine (HWd.out _).grows.mono ?_); rintro e w2 ⟨rfl, hg2⟩; have HG := Lib.hid (((Grew.refl w).alloc _).trans hg2); have HB : Hid (Blok w2 w.heap.size 33 #[.int .i64 0, .string ⟨#[]⟩, .int .i64 0, .int .i64 0]) := Lib.hid ((Blok.new _ _ _ _ rfl).grew hg2); obtain ⟨z0, z1, z2, z3, z4, z5, z6, z7, z8⟩ := tk_in HB.out; clear hg2))
      have hb := tk_set HB.out (.int .i64 r.k) (.string ⟨r.t.toArray⟩) (.int .i64 r.i) (.int .i64 0)
      obtain ⟨_, r0, r1, r2, r3, _, _, _, _⟩ := tk_in hb
      exact bodyPost_ret (v := .tuple #[.agg #[.int .i64 r.k, .string ⟨r.t.toArray⟩, .int .i64 r.i, .int .i64 0], .int .i64 r.n, .int .i64 r.e]) (by simp [results, Tryd.results22, go_sem, r0, r1, r2, r3]) rfl ⟨rfl, grew_tk HG.out (Nat.le_refl _) _ _ _ _⟩
  · obtain rfl : a = s.size := by omega
    have e : (bl s).drop s.size = [] := List.drop_of_length_le (by rw [bl_len]; exact Nat.le_refl _)
    rw [e]
    clear e
    unfold hereT trV
    obtain ⟨W0, hW0⟩ : ∃ W0, W0 = w.alloc (.cells #[.int .i64 0, .string ⟨#[]⟩, .int .i64 0, .int .i64 0] 33) := ⟨_, rfl⟩
    have HG : Hid (Grew w W0) := Lib.hid (by rw [hW0]; exact (Grew.refl w).alloc _)
    have HB : Hid (Blok W0 w.heap.size 33 #[.int .i64 0, .string ⟨#[]⟩, .int .i64 0, .int .i64 0]) := Lib.hid (by rw [hW0]; exact Blok.new _ _ _ _ rfl)
    have hw0 := Nat.le_refl w.heap.size
    unfold Gives
    go_enter Tryd.func22, Tryd.ntmps22
    go_upto_region 1 with fail
    rw [← hW0]
    clear hW0
    obtain ⟨z0, z1, z2, z3, z4, z5, z6, z7, z8⟩ := tk_in HB.out
    go_wp2
    have hb := tk_set HB.out (.int .i64 0) (.string ⟨#[]⟩) (.int .i64 0) (.int .i64 0)
    obtain ⟨_, r0, r1, r2, r3, _, _, _, _⟩ := tk_in hb
    exact bodyPost_ret (v := .tuple #[.agg #[.int .i64 0, .string ⟨#[]⟩, .int .i64 0, .int .i64 0], .int .i64 0, .int .i64 0]) (by simp [results, Tryd.results22, go_sem, r0, r1, r2, r3]) rfl ⟨rfl, grew_tk HG.out (Nat.le_refl _) _ _ _ _⟩
end Go.Proofs.YtlmohihodhdcfaaDoor
