/- Layer 7: texts between quotes, by the document. Condition: a text of no more than a million bytes. -/
import Derived.Test.YtlmohihodhdcfaaDoorTok8
namespace Go.Proofs.YtlmohihodhdcfaaDoor
open Go.RowKit
attribute [local go_sem] more_cell more_frozen more_more more_setCell more_of_drew more_of_drewN lt_more le_more past_cell past_cell2 past_frozen past_frozen2 past_setCell past_setCell2 mid_cell mid_frozen mid_setCell
attribute [local go_sem ↓] Go.wp_at_zero Go.wp_at_succ

def RTxtAt (s : ByteArray) (i : Nat) (V : World) (t k : Value) (wr : World) : Prop := ∃ (q : Nat) (x : ByteArray), i + 1 + q ≤ s.size ∧ k = .int .i64 ((i + 1 + q : Nat) : Int) ∧ t = .string x ∧ wr = V ∧ x.size ≤ q ∧ unq ((bl s).drop (i + 1)) = sh (bl x) q (unq (((bl s).drop (i + 1)).drop q))
theorem drop_get {s : ByteArray} {a q : Nat} (h : a + q < s.size) (h' : q < ((bl s).drop a).length) : ((bl s).drop a)[q] = s[a + q] := by
  rw [List.getElem_drop]
  exact bl_get h _
set_option maxHeartbeats 1000000 in
set_option maxRecDepth 100000 in
theorem rtext7_any (s : ByteArray) (c i : Nat) (hs : s.size ≤ 1000000) (hi : i < s.size) (w : World) : Gives Tryd.prog 27 #[.string s, .int .i64 c, .int .i64 i] w (toV (toT c i (textT ((bl s).drop i)))) := by
  obtain ⟨fin, hfin⟩ : ∃ fin, toV (toT c i (textT ((bl s).drop i))) = fin := ⟨_, rfl⟩
  have hdd : ((bl s).drop i).drop 1 = (bl s).drop (i + 1) := by rw [List.drop_drop]
  have HN : Hid (unq ((bl s).drop (i + 1)) = none → fin = toV ⟨0, [], 0, 0, c, 1⟩) := Lib.hid fun h => by
    rw [← hfin]
    unfold textT
    rw [hdd, h]
    rfl
  have HL : Hid (∀ t n, unq ((bl s).drop (i + 1)) = some (t, n) → 65536 < t.length → fin = toV ⟨0, [], 0, 0, c, 4⟩) := Lib.hid fun t n h hl => by
    rw [← hfin]
    unfold textT
    rw [hdd, h]
    show toV (toT c i (if 65536 < t.length then errT 4 else ⟨4, t, 0, n + 1, 0⟩)) = _
    rw [if_pos hl]
    rfl
  have HY : Hid (∀ t n, unq ((bl s).drop (i + 1)) = some (t, n) → ¬ 65536 < t.length → fin = toV ⟨4, t, 0, i, i + (n + 1), 0⟩) := Lib.hid fun t n h hl => by
    rw [← hfin]
    unfold textT
    rw [hdd, h]
    show toV (toT c i (if 65536 < t.length then errT 4 else ⟨4, t, 0, n + 1, 0⟩)) = _
    rw [if_neg hl]
    rfl
  rw [hfin]
  clear hfin hdd
  obtain ⟨W0, hW0⟩ : ∃ W0, W0 = w.alloc (.cells #[.int .i64 0, .string ⟨#[]⟩, .int .i64 0, .int .i64 0] 33) := ⟨_, rfl⟩
  have HG : Hid (Grew w W0) := Lib.hid (by rw [hW0]; exact (Grew.refl w).alloc _)
  have HB : Hid (Blok W0 w.heap.size 33 #[.int .i64 0, .string ⟨#[]⟩, .int .i64 0, .int .i64 0]) := Lib.hid (by rw [hW0]; exact Blok.new _ _ _ _ rfl)
  unfold Gives
  go_enter Tryd.func27, Tryd.ntmps27
  go_upto_region 1 with fail
  rw [← hW0]
  clear hW0
  obtain ⟨z0, z1, z2, z3, z4, z5, z6, z7, z8⟩ := tk_in HB.out
  go_wp2
  go_loopw [9, 10] (fun t k wr => RTxtAt s i W0 t k wr) (fun _ k _ => s.size - (intOf k).toNat)
  case atStart => exact ⟨0, ⟨#[]⟩, by omega, by simp, rfl, rfl, Nat.le_refl _, by rw [show bl ⟨#[]⟩ = [] from rfl]; exact unq_start _⟩
  case round =>
    obtain ⟨q, x, hq, rfl, rfl, rfl, hxs, hu⟩ := hrel
    have hml : ((bl s).drop (i + 1)).length = s.size - (i + 1) := by rw [List.length_drop, bl_len]
    by_cases h : i + 1 + q < s.size
    · have hql : q < ((bl s).drop (i + 1)).length := by omega
      have hg := drop_get h hql
      have he := ext_one h
      by_cases h39 : s[i + 1 + q].toNat = 39
      · have hn : ((s[i + 1 + q].toNat : Int) != 39) = false := by rw [h39]; rfl
        by_cases h2 : ∃ h2 : i + 1 + (q + 1) < s.size, s[i + 1 + (q + 1)].toNat = 39
        · obtain ⟨h2, h239⟩ := h2
          have hql2 : q + 1 < ((bl s).drop (i + 1)).length := by omega
          have hg2 := drop_get h2 hql2
          have HU : Hid (unq ((bl s).drop (i + 1)) = sh (bl (x ++ ⟨#[39]⟩)) (q + 2) (unq (((bl s).drop (i + 1)).drop (q + 2)))) := Lib.hid (by
            have := unq_s2 hu hql2 (by rw [hg]; exact h39) (by rw [hg2]; exact h239)
            rw [bl_append]
            rw [hg, is39 h39] at this
            exact this)
          have hsz : (x ++ ⟨#[39]⟩).size ≤ q + 2 := by rw [ByteArray.size_append]; have : (⟨#[39]⟩ : ByteArray).size = 1 := rfl; omega
          have h1s : (⟨#[39]⟩ : ByteArray).size = 1 := rfl
          have h239' : ((s[i + 1 + (q + 1)].toNat : Int) == 39) = true := by rw [h239]; rfl
          obtain ⟨k, hk⟩ : ∃ k, i + 1 + q = k := ⟨_, rfl⟩
          have HK : Hid (i + 1 + (q + 2) = k + 2) := Lib.hid (by omega)
          have ek : i + 1 + (q + 1) = k + 1 := by omega
          simp only [ek] at h239' h2
          clear hg hg2 he hu h239 h39 HN HL HY hql hql2
          simp only [hk] at hn h ⊢
          have hx3 : x.size ≤ 1000000 := by omega
          go_wp2
          exact ⟨⟨q + 2, _, by omega, by rw [HK.out]; simp, rfl, rfl, hsz, HU.out⟩, by simp only [intOf]; omega⟩
        · have hS := unq_s3 hu hql (by rw [hg]; exact h39) (by
            rcases Nat.lt_or_ge (i + 1 + (q + 1)) s.size with h3 | h3
            · have hql2 : q + 1 < ((bl s).drop (i + 1)).length := by omega
              exact Or.inr ⟨hql2, by rw [drop_get h3 hql2]; exact fun e => h2 ⟨h3, e⟩⟩
            · exact Or.inl (by omega))
          have hlen : (bl x).length = x.size := bl_len x
          have HL1 : Hid (65536 < x.size → fin = toV ⟨0, [], 0, 0, c, 4⟩) := Lib.hid fun hb => HL.out _ _ hS (by rw [hlen]; exact hb)
          have HY1 : Hid (¬ 65536 < x.size → fin = toV ⟨4, bl x, 0, i, i + (q + 1 + 1), 0⟩) := Lib.hid fun hb => HY.out _ _ hS (by rw [hlen]; exact hb)
          have hcase : (∃ h3 : i + 1 + (q + 1) < s.size, ((s[i + 1 + (q + 1)].toNat : Int) == 39) = false) ∨ (s.size ≤ i + 1 + (q + 1)) := by
            rcases Nat.lt_or_ge (i + 1 + (q + 1)) s.size with h3 | h3
            · exact Or.inl ⟨h3, by rw [beq_eq_false_iff_ne]; intro e; exact h2 ⟨h3, by omega⟩⟩
            · exact Or.inr h3
          obtain ⟨k, hk⟩ : ∃ k, i + 1 + q = k := ⟨_, rfl⟩
          have HK : Hid (i + (q + 1 + 1) = k + 1) := Lib.hid (by omega)
          have ek : i + 1 + (q + 1) = k + 1 := by omega
          simp only [ek] at hcase
          clear hg he hu h39 HN HL HY hql hS h2 hlen hml
          simp only [hk] at hn h ⊢
          have hx3 : x.size ≤ 1000000 := by omega
          have hk3 : k ≤ 1000000 := by omega

          by_cases hb : 65536 < x.size
          · have hbd : decide ((65536 : Int) < (x.size : Int)) = true := by simp; omega
            have hbi : (65536 : Int) < (x.size : Int) := by omega
            obtain rfl := HL1.out hb
            clear HL1 HY1 hb
            rcases hcase with ⟨h3, h4⟩ | h3
            · go_wp2
              have hb := tk_set HB.out (.int .i64 0) (.string ⟨#[]⟩) (.int .i64 0) (.int .i64 0)
              obtain ⟨_, r0, r1, r2, r3, _, _, _, _⟩ := tk_in hb
              exact bodyPost_ret (v := .tuple #[.agg #[.int .i64 0, .string ⟨#[]⟩, .int .i64 0, .int .i64 0], .int .i64 c, .int .i64 4]) (by simp [results, Tryd.results27, go_sem, r0, r1, r2, r3]) rfl ⟨rfl, grew_tk HG.out (Nat.le_refl _) _ _ _ _⟩
            · have h3' : (s.size : Int) ≤ (k : Int) + 1 := by omega
              go_wp2
              have hb := tk_set HB.out (.int .i64 0) (.string ⟨#[]⟩) (.int .i64 0) (.int .i64 0)
              obtain ⟨_, r0, r1, r2, r3, _, _, _, _⟩ := tk_in hb
              exact bodyPost_ret (v := .tuple #[.agg #[.int .i64 0, .string ⟨#[]⟩, .int .i64 0, .int .i64 0], .int .i64 c, .int .i64 4]) (by simp [results, Tryd.results27, go_sem, r0, r1, r2, r3]) rfl ⟨rfl, grew_tk HG.out (Nat.le_refl _) _ _ _ _⟩
          · have hbd : decide ((65536 : Int) < (x.size : Int)) = false := by simp; omega
            have hbi : (x.size : Int) ≤ 65536 := by omega
            obtain rfl := HY1.out hb
            clear HL1 HY1 hb
            rcases hcase with ⟨h3, h4⟩ | h3
            · go_wp2
              have hb := tk_set HB.out (.int .i64 4) (.string x) (.int .i64 0) (.int .i64 i)
              obtain ⟨_, r0, r1, r2, r3, _, _, _, _⟩ := tk_in hb
              exact bodyPost_ret (v := .tuple #[.agg #[.int .i64 4, .string x, .int .i64 0, .int .i64 i], .int .i64 ((k + 1 : Nat) : Int), .int .i64 0]) (by simp [results, Tryd.results27, go_sem, r0, r1, r2, r3]) rfl ⟨by unfold toV; simp only; rw [mk_bl, HK.out], grew_tk HG.out (Nat.le_refl _) _ _ _ _⟩
            · have h3' : (s.size : Int) ≤ (k : Int) + 1 := by omega
              go_wp2
              have hb := tk_set HB.out (.int .i64 4) (.string x) (.int .i64 0) (.int .i64 i)
              obtain ⟨_, r0, r1, r2, r3, _, _, _, _⟩ := tk_in hb
              exact bodyPost_ret (v := .tuple #[.agg #[.int .i64 4, .string x, .int .i64 0, .int .i64 i], .int .i64 ((k + 1 : Nat) : Int), .int .i64 0]) (by simp [results, Tryd.results27, go_sem, r0, r1, r2, r3]) rfl ⟨by unfold toV; simp only; rw [mk_bl, HK.out], grew_tk HG.out (Nat.le_refl _) _ _ _ _⟩
      · have hn : ((s[i + 1 + q].toNat : Int) != 39) = true := by rw [bne_iff_ne]; omega
        have HU : Hid (unq ((bl s).drop (i + 1)) = sh (bl (x ++ ⟨#[s[i + 1 + q]]⟩)) (q + 1) (unq (((bl s).drop (i + 1)).drop (q + 1)))) := Lib.hid (by
          have := unq_s1 hu hql (by rw [hg]; exact h39)
          rw [bl_append]
          rw [hg] at this
          exact this)
        have h1s : (⟨#[s[i + 1 + q]]⟩ : ByteArray).size = 1 := rfl
        have hsz : (x ++ ⟨#[s[i + 1 + q]]⟩).size ≤ q + 1 := by rw [ByteArray.size_append]; omega
        obtain ⟨k, hk⟩ : ∃ k, i + 1 + q = k := ⟨_, rfl⟩
        have HK : Hid (i + 1 + (q + 1) = k + 1) := Lib.hid (by omega)
        clear hg hu h39 HN HL HY hql hml
        simp only [hk] at hn h he h1s hsz HU ⊢
        have hx3 : x.size ≤ 1000000 := by omega

        go_wp2
        exact ⟨⟨q + 1, _, by have := HK.out; omega, by rw [HK.out]; simp, rfl, rfl, hsz, HU.out⟩, by simp only [intOf]; omega⟩
    · have hr := HN.out (unq_s0 hu (by omega))
      subst hr
      obtain ⟨k, hk⟩ : ∃ k, i + 1 + q = k := ⟨_, rfl⟩
      clear hu HN HL HY hml
      simp only [hk] at h ⊢

      go_wp2
      have hb := tk_set HB.out (.int .i64 0) (.string ⟨#[]⟩) (.int .i64 0) (.int .i64 0)
      obtain ⟨_, r0, r1, r2, r3, _, _, _, _⟩ := tk_in hb
      exact bodyPost_ret (v := .tuple #[.agg #[.int .i64 0, .string ⟨#[]⟩, .int .i64 0, .int .i64 0], .int .i64 c, .int .i64 1]) (by simp [results, Tryd.results27, go_sem, r0, r1, r2, r3]) rfl ⟨rfl, grew_tk HG.out (Nat.le_refl _) _ _ _ _⟩
end Go.Proofs.YtlmohihodhdcfaaDoor
