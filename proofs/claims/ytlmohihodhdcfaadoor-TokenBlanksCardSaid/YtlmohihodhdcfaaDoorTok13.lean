/- Layer 7: the statements' walks: one token, quoted texts. Condition: the library's table of how long a search may be holds a number. -/
import Derived.Test.YtlmohihodhdcfaaDoorTok12
namespace Go.Proofs.YtlmohihodhdcfaaDoor
open Go.RowKit
attribute [local go_sem] more_cell more_frozen more_more more_setCell more_of_drew more_of_drewN lt_more le_more past_cell past_cell2 past_frozen past_frozen2 past_setCell past_setCell2 mid_cell mid_frozen mid_setCell
attribute [local go_sem ↓] Go.wp_at_zero Go.wp_at_succ

theorem byte_of {c : Int} (h : 0 ≤ c ∧ c < 256) : ∃ b : UInt8, c = (b.toNat : Int) := by
  refine ⟨UInt8.ofNat c.toNat, ?_⟩
  rw [UInt8.toNat_ofNat_of_lt' (by simp; omega)]
  omega
set_option maxHeartbeats 1000000 in
set_option maxRecDepth 100000 in
theorem tokenOnes_walk (s : ByteArray) (a c : Int) (hc : 0 ≤ c ∧ c < 256) (w : World) (hw : MaxW w) : Gives Tryd.prog 4 #[.string s, .int .i64 a, .int .u8 c] w (.bool true) := by
  obtain ⟨b, rfl⟩ := byte_of hc
  clear hc
  have HL : Hid (∀ W, Grew w W → Gives Tryd.prog 7 #[] W (.bool true)) := Lib.hid fun W hW => live07_any W (hw.grew hW)
  by_cases hb : 1000 < s.size
  · have hbd : decide ((1000 : Int) < (s.size : Int)) = true := by simp; omega
    have hbi : (1000 : Int) < (s.size : Int) := by omega
    unfold Gives
    clear hw hb
    go_enter Tryd.func4, Tryd.ntmps4
    go_wp2_with (go_at_call 7; (with_reducible refine (HL.out _ (Grew.refl _)).grows.mono ?_); rintro e w9 ⟨rfl, hg9⟩; have HG9 := Lib.hid hg9; clear hg9)
    go_ret
    exact ⟨rfl, HG9.out⟩
  · have hbd : decide ((1000 : Int) < (s.size : Int)) = false := by simp; omega
    have hbi : (s.size : Int) ≤ (1000 : Int) := by omega
    have H1 := Lib.hid (one7_any s a (by omega) w hw)
    have H2 := Lib.hid (rone7_any s a (by omega))
    have H3 := Lib.hid (sign7_any s a (by omega))
    have H4 := Lib.hid (rsign7_any s a (by omega))
    have H5 := Lib.hid (tblank_any b)
    have H6 := Lib.hid (rblank_any b)
    generalize oneT (bl s) a = o at *
    generalize signI (bl s) a = g at *
    generalize blankB b = bb at *
    unfold toV at H1 H2
    generalize b.toNat = bn at *
    clear hw hb
    have f0 : (o.e == o.e) = true := by simp
    have f1 : (o.k == o.k) = true := by simp
    have f3 : (o.i == o.i) = true := by simp
    have f4 : (((o.at' : Nat) : Int) == ((o.at' : Nat) : Int)) = true := by simp
    have f5 : (((o.next : Nat) : Int) == ((o.next : Nat) : Int)) = true := by simp
    have f7 : (bb == bb) = true := by simp
    obtain ⟨t, ht⟩ : ∃ t, (⟨o.t.toArray⟩ : ByteArray) = t := ⟨_, rfl⟩
    obtain ⟨gs, hgs⟩ : ∃ t, (⟨g.toArray⟩ : ByteArray) = t := ⟨_, rfl⟩
    rw [ht] at H1 H2
    rw [hgs] at H3 H4
    clear ht hgs
    have f2 : (t.toList == t.toList) = true := by simp
    have f6 : (gs.toList == gs.toList) = true := by simp
    unfold Gives
    go_enter Tryd.func4, Tryd.ntmps4
    go_upto_region 4 with (go_at_call 12; (with_reducible refine H1.out.grows.mono ?_); rintro e w1 ⟨rfl, hg1⟩; have HG1 := Lib.hid hg1; clear hg1)
    obtain ⟨W1, hW1⟩ : ∃ W1, W1 = w1.alloc (.cells #[.int .i64 o.k, .string t, .int .i64 o.i, .int .i64 o.at'] 33) := ⟨_, rfl⟩
    have HB1 : Hid (Blok W1 w1.heap.size 33 #[.int .i64 o.k, .string t, .int .i64 o.i, .int .i64 o.at']) := Lib.hid (by rw [hW1]; exact Blok.new _ _ _ _ rfl)
    have HGW1 : Hid (Grew w W1) := Lib.hid (by rw [hW1]; exact HG1.out.alloc _)
    rw [← hW1]
    clear hW1 HG1 H1
    generalize w1.heap.size = g1 at *
    go_upto_region 5 with (go_at_call 13; (with_reducible refine (H2.out _).grows.mono ?_); rintro e w2 ⟨rfl, hg2⟩; have HG2 := Lib.hid hg2; clear hg2)
    obtain ⟨W2, hW2⟩ : ∃ W2, W2 = w2.alloc (.cells #[.int .i64 o.k, .string t, .int .i64 o.i, .int .i64 o.at'] 33) := ⟨_, rfl⟩
    have HB2 : Hid (Blok W2 w2.heap.size 33 #[.int .i64 o.k, .string t, .int .i64 o.i, .int .i64 o.at']) := Lib.hid (by rw [hW2]; exact Blok.new _ _ _ _ rfl)
    have HB3 : Hid (Blok W2 g1 33 #[.int .i64 o.k, .string t, .int .i64 o.i, .int .i64 o.at']) := Lib.hid (by rw [hW2]; exact (HB1.out.grew HG2.out).alloc _)
    have HG : Hid (Grew w W2) := Lib.hid (by rw [hW2]; exact (HGW1.out.trans HG2.out).alloc _)
    rw [← hW2]
    clear hW2 HG2 H2 HB1 HGW1
    generalize w2.heap.size = g2 at *
    obtain ⟨z0, z1, z2, z3, z4, _, _, _, _⟩ := tk_in HB2.out
    obtain ⟨y0, y1, y2, y3, y4, _, _, _, _⟩ := tk_in HB3.out
    clear HB2 HB3
    go_wp2_with (first
      | (go_at_call 11; (with_reducible refine (tcode_any _ _).mono ?_); rintro e w9 ⟨rfl, hw9⟩; have hw9 := hw9.symm; subst hw9)
      | (go_at_call 14; (with_reducible refine (H3.out _).mono ?_); rintro e w9 ⟨rfl, hw9⟩; have hw9 := hw9.symm; subst hw9)
      | (go_at_call 15; (with_reducible refine (H4.out _).grows.mono ?_); rintro e w3 ⟨rfl, hg3⟩; have HG3 := Lib.hid (HG.out.trans hg3); clear hg3)
      | (go_at_call 16; (with_reducible refine (H5.out _).mono ?_); rintro e w9 ⟨rfl, hw9⟩; have hw9 := hw9.symm; subst hw9)
      | (go_at_call 17; (with_reducible refine (H6.out _).mono ?_); rintro e w9 ⟨rfl, hw9⟩; have hw9 := hw9.symm; subst hw9)
      | (go_at_call 7; (with_reducible refine (HL.out _ HG3.out).grows.mono ?_); rintro e w4 ⟨rfl, hg4⟩; have HG4 := Lib.hid (HG3.out.trans hg4); clear hg4))
    go_ret
    exact ⟨rfl, HG4.out⟩
theorem oneT_quoted (t r : List UInt8) (hr : ∀ d ∈ r.head?, ¬ d.toNat = 39) (ht : t.length ≤ 65536) : oneT (39 :: (qq t ++ 39 :: r)) 0 = ⟨4, t, 0, 0, (qq t).length + 2, 0⟩ := by
  have hc : clampI (39 :: (qq t ++ 39 :: r)).length 0 = 0 := by
    unfold clampI
    rw [if_neg (by omega), if_neg (by omega)]
    rfl
  have hf : firstP (39 :: (qq t ++ 39 :: r)) 0 = 0 := by
    unfold firstP
    rw [List.drop_zero]
    rfl
  have hh : hereT (39 :: (qq t ++ 39 :: r)) = textT (39 :: (qq t ++ 39 :: r)) := by
    rw [hereT_eq, if_neg (by decide), if_neg (by decide), if_pos (by decide)]
  have hx : textT (39 :: (qq t ++ 39 :: r)) = ⟨4, t, 0, (qq t).length + 1 + 1, 0⟩ := by
    unfold textT
    rw [List.drop_succ_cons, List.drop_zero, unq_qq t r hr]
    show (if 65536 < t.length then errT 4 else _ : Tr) = _
    rw [if_neg (by omega)]
  unfold oneT
  rw [hc, hf, List.drop_zero, hh, hx]
  show To.mk _ _ _ _ _ _ = _
  rw [Nat.zero_add]
set_option maxHeartbeats 1000000 in
set_option maxRecDepth 100000 in
theorem tokenQuotes_walk (s m : ByteArray) (hz : s.size ≤ 140737488355328) (hz2 : m.size ≤ 140737488355328) (w : World) (hw : MaxW w) : Gives Tryd.prog 5 #[.string s, .string m] w (.bool true) := by
  have HL : Hid (∀ W, Grew w W → Gives Tryd.prog 7 #[] W (.bool true)) := Lib.hid fun W hW => live07_any W (hw.grew hW)
  have hadd : IntKind.i64.wrap ((s.size : Int) + (m.size : Int)) = (s.size : Int) + (m.size : Int) := IntWalk.i64_in _ (by omega)
  by_cases hb : 1000 < s.size + m.size
  · have hbd : decide ((1000 : Int) < (s.size : Int) + (m.size : Int)) = true := by simp; omega
    have hbi : (1000 : Int) < (s.size : Int) + (m.size : Int) := by omega
    unfold Gives
    clear hw hb
    go_enter Tryd.func5, Tryd.ntmps5
    go_wp2_with (go_at_call 7; (with_reducible refine (HL.out _ (Grew.refl _)).grows.mono ?_); rintro e w9 ⟨rfl, hg9⟩; have HG9 := Lib.hid hg9; clear hg9)
    go_ret
    exact ⟨rfl, HG9.out⟩
  · have hbd : decide ((1000 : Int) < (s.size : Int) + (m.size : Int)) = false := by simp; omega
    have hbi : (s.size : Int) + (m.size : Int) ≤ (1000 : Int) := by omega
    have H1 := Lib.hid (tquote_any s (by omega) w hw)
    have H2 := Lib.hid (rquote_any s (by omega))
    have hql := (qq_len (bl s)).2
    rw [bl_len] at hql
    have hqs : (⟨(39 :: (qq (bl s) ++ [39])).toArray⟩ : ByteArray).size = (qq (bl s)).length + 2 := by rw [mk_size]; simp
    have hqb : bl ⟨(39 :: (qq (bl s) ++ [39])).toArray⟩ = 39 :: (qq (bl s) ++ [39]) := bl_mk _
    obtain ⟨Q, hQ⟩ : ∃ Q, (⟨(39 :: (qq (bl s) ++ [39])).toArray⟩ : ByteArray) = Q := ⟨_, rfl⟩
    rw [hQ] at H1 H2 hqs hqb
    have fq : (Q.toList == Q.toList) = true := by simp
    have hQ2 : Q.size ≤ 2002 := by omega
    clear hQ hb
    have HFst : Hid ((m.size = 0) ∨ (∃ h : 0 < m.size, m[0].toNat = 39) ∨ (∃ h : 0 < m.size, ((m[0].toNat : Int) == 39) = false)) := Lib.hid (by
      rcases Nat.eq_zero_or_pos m.size with h | h
      · exact Or.inl h
      · by_cases h2 : m[0].toNat = 39
        · exact Or.inr (Or.inl ⟨h, h2⟩)
        · exact Or.inr (Or.inr ⟨h, by rw [beq_eq_false_iff_ne]; omega⟩))
    have HOne : Hid ((m.size = 0 ∨ (∃ h : 0 < m.size, ((m[0].toNat : Int) == 39) = false)) → oneT (bl (Q ++ m)) 0 = ⟨4, bl s, 0, 0, Q.size, 0⟩) := Lib.hid fun hm => by
      have e : bl (Q ++ m) = 39 :: (qq (bl s) ++ 39 :: bl m) := by rw [bl_append, hqb]; simp
      rw [e, oneT_quoted (bl s) (bl m) _ (by rw [bl_len]; omega), hqs]
      intro d hd
      rcases hm with hm | ⟨hm, h39⟩
      · have : bl m = [] := List.eq_nil_of_length_eq_zero (by rw [bl_len]; exact hm)
        rw [this] at hd
        simp at hd
      · have hl : 0 < (bl m).length := by rw [bl_len]; exact hm
        rw [List.head?_eq_getElem?, List.getElem?_eq_getElem hl] at hd
        have e2 : (bl m)[0] = d := Option.some.inj hd
        rw [bl_get hm hl] at e2
        rw [← e2]
        intro h
        exact (beq_eq_false_iff_ne.1 h39) (by omega)
    have H3 : Hid (∀ W, Grew w W → Gives Tryd.prog 12 #[.string (Q ++ m), .int .i64 0] W (toV (oneT (bl (Q ++ m)) 0))) := Lib.hid fun W hW => one7_any (Q ++ m) 0 (by rw [ByteArray.size_append]; omega) W (hw.grew hW)
    clear hql hqs hqb hw
    have hsz : (Q ++ m).size ≤ 3002 := by rw [ByteArray.size_append]; omega
    rcases HFst.out with h0 | ⟨h0, h39⟩ | ⟨h0, h39⟩
    · rw [HOne.out (Or.inl h0)] at H3
      have h0d : decide ((0 : Int) < (m.size : Int)) = false := decide_eq_false (by omega)
      have h0i : (m.size : Int) ≤ 0 := by omega
      unfold toV at H3
      simp only [mk_bl] at H3
      clear HFst HOne h0
      have f2 : (s.toList == s.toList) = true := by simp
      unfold Gives
      go_enter Tryd.func5, Tryd.ntmps5
      go_upto_region 9 with (first | (go_at_call 18; (with_reducible refine H1.out.grows.mono ?_); rintro e w1 ⟨rfl, hg1⟩; have HG1 := Lib.hid hg1; clear hg1) | (go_at_call 19; (with_reducible refine (H2.out _).grows.mono ?_); rintro e w2 ⟨rfl, hg2⟩; have HG2 := Lib.hid (HG1.out.trans hg2); clear hg2) | (go_at_call 12; (with_reducible refine (H3.out _ HG2.out).grows.mono ?_); rintro e w3 ⟨rfl, hg3⟩; have HG3 := Lib.hid (HG2.out.trans hg3); clear hg3))
      obtain ⟨W1, hW1⟩ : ∃ W1, W1 = w3.alloc (.cells #[.int .i64 4, .string s, .int .i64 0, .int .i64 0] 33) := ⟨_, rfl⟩
      have HB1 : Hid (Blok W1 w3.heap.size 33 #[.int .i64 4, .string s, .int .i64 0, .int .i64 0]) := Lib.hid (by rw [hW1]; exact Blok.new _ _ _ _ rfl)
      have HG : Hid (Grew w W1) := Lib.hid (by rw [hW1]; exact HG3.out.alloc _)
      have hWc : w3.alloc (.cells #[.int .i64 4, .string s, .int .i64 0, .int .i64 ((0 : Nat) : Int)] 33) = W1 := hW1.symm
      rw [← hW1]
      clear hW1 hWc HG1 HG2 HG3
      generalize w3.heap.size = g1 at *
      obtain ⟨z0, z1, z2, z3, z4, _, _, _, _⟩ := tk_in HB1.out
      clear HB1
      go_wp2_with (first
        | (go_at_call 11; (with_reducible refine (tcode_any _ _).mono ?_); rintro e w9 ⟨rfl, hw9⟩; have hw9 := hw9.symm; subst hw9)
        | (go_at_call 7; (with_reducible refine (HL.out _ HG.out).grows.mono ?_); rintro e w4 ⟨rfl, hg4⟩; have HG4 := Lib.hid (HG.out.trans hg4); clear hg4))
      go_ret
      exact ⟨rfl, HG4.out⟩
    · have h0i : (0 : Int) < (m.size : Int) := by omega
      have h39' : (((m[0]'h0).toNat : Int) == 39) = true := by rw [h39]; rfl
      clear HFst HOne H3 h39
      unfold Gives
      go_enter Tryd.func5, Tryd.ntmps5
      go_wp2_with (first | (go_at_call 18; (with_reducible refine H1.out.grows.mono ?_); rintro e w1 ⟨rfl, hg1⟩; have HG1 := Lib.hid hg1; clear hg1) | (go_at_call 19; (with_reducible refine (H2.out _).grows.mono ?_); rintro e w2 ⟨rfl, hg2⟩; have HG2 := Lib.hid (HG1.out.trans hg2); clear hg2) | (go_at_call 7; (with_reducible refine (HL.out _ HG2.out).grows.mono ?_); rintro e w4 ⟨rfl, hg4⟩; have HG4 := Lib.hid (HG2.out.trans hg4); clear hg4))
      go_ret
      exact ⟨rfl, HG4.out⟩
    · rw [HOne.out (Or.inr ⟨h0, h39⟩)] at H3
      have h0i : (0 : Int) < (m.size : Int) := by omega
      unfold toV at H3
      simp only [mk_bl] at H3
      clear HFst HOne
      have f2 : (s.toList == s.toList) = true := by simp
      unfold Gives
      go_enter Tryd.func5, Tryd.ntmps5
      go_upto_region 9 with (first | (go_at_call 18; (with_reducible refine H1.out.grows.mono ?_); rintro e w1 ⟨rfl, hg1⟩; have HG1 := Lib.hid hg1; clear hg1) | (go_at_call 19; (with_reducible refine (H2.out _).grows.mono ?_); rintro e w2 ⟨rfl, hg2⟩; have HG2 := Lib.hid (HG1.out.trans hg2); clear hg2) | (go_at_call 12; (with_reducible refine (H3.out _ HG2.out).grows.mono ?_); rintro e w3 ⟨rfl, hg3⟩; have HG3 := Lib.hid (HG2.out.trans hg3); clear hg3))
      obtain ⟨W1, hW1⟩ : ∃ W1, W1 = w3.alloc (.cells #[.int .i64 4, .string s, .int .i64 0, .int .i64 0] 33) := ⟨_, rfl⟩
      have HB1 : Hid (Blok W1 w3.heap.size 33 #[.int .i64 4, .string s, .int .i64 0, .int .i64 0]) := Lib.hid (by rw [hW1]; exact Blok.new _ _ _ _ rfl)
      have HG : Hid (Grew w W1) := Lib.hid (by rw [hW1]; exact HG3.out.alloc _)
      have hWc : w3.alloc (.cells #[.int .i64 4, .string s, .int .i64 0, .int .i64 ((0 : Nat) : Int)] 33) = W1 := hW1.symm
      rw [← hW1]
      clear hW1 hWc HG1 HG2 HG3
      generalize w3.heap.size = g1 at *
      obtain ⟨z0, z1, z2, z3, z4, _, _, _, _⟩ := tk_in HB1.out
      clear HB1
      go_wp2_with (first
        | (go_at_call 11; (with_reducible refine (tcode_any _ _).mono ?_); rintro e w9 ⟨rfl, hw9⟩; have hw9 := hw9.symm; subst hw9)
        | (go_at_call 7; (with_reducible refine (HL.out _ HG.out).grows.mono ?_); rintro e w4 ⟨rfl, hg4⟩; have HG4 := Lib.hid (HG.out.trans hg4); clear hg4))
      go_ret
      exact ⟨rfl, HG4.out⟩
end Go.Proofs.YtlmohihodhdcfaaDoor
