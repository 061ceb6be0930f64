/- Layer 7: the token from a place on, by the document. Condition: a text of no more than a million bytes. -/
import Derived.Test.YtlmohihodhdcfaaDoorTok9
import Derived.Deep.CutBlock
import Derived.Deep.DeepCutAuto
namespace Go.Proofs.YtlmohihodhdcfaaDoor
open Go.RowKit
attribute [local go_sem] more_cell more_frozen more_more more_setCell more_of_drew more_of_drewN lt_more le_more past_cell past_cell2 past_frozen past_frozen2 past_setCell past_setCell2 mid_cell mid_frozen mid_setCell
attribute [local go_sem ↓] Go.wp_at_zero Go.wp_at_succ

theorem firstP_at {s : ByteArray} {c j : Nat} (h1 : c ≤ j) (h2 : j ≤ s.size) (h3 : ∀ k (h : k < s.size), c ≤ k → k < j → blankB s[k] = true) (h4 : j = s.size ∨ ∃ h : j < s.size, blankB s[j] = false) : firstP (bl s) c = j := by
  unfold firstP
  rw [runP_at blankB ((bl s).drop c) (j - c) (by rw [List.length_drop, bl_len]; omega) (fun k h hk => by
    rw [List.length_drop, bl_len] at h
    rw [drop_get (by omega)]
    exact h3 _ _ (by omega) (by omega)) (by
    rcases h4 with h | ⟨h, hb⟩
    · exact Or.inl (by rw [List.length_drop, bl_len]; omega)
    · refine Or.inr ⟨by rw [List.length_drop, bl_len]; omega, ?_⟩
      rw [drop_get (by omega)]
      simp only [show c + (j - c) = j by omega]
      exact hb)]
  omega
theorem runS_at {s : ByteArray} {p : UInt8 → Bool} {f k : Nat} (h1 : f ≤ k) (h2 : k ≤ s.size) (h3 : ∀ q (h : q < s.size), f ≤ q → q < k → p s[q] = true) (h4 : k = s.size ∨ ∃ h : k < s.size, p s[k] = false) : runP p ((bl s).drop f) = k - f :=
  runP_at p ((bl s).drop f) (k - f) (by rw [List.length_drop, bl_len]; omega) (fun q h hk => by
    rw [List.length_drop, bl_len] at h
    rw [drop_get (by omega)]
    exact h3 _ _ (by omega) (by omega)) (by
    rcases h4 with h | ⟨h, hb⟩
    · exact Or.inl (by rw [List.length_drop, bl_len]; omega)
    · refine Or.inr ⟨by rw [List.length_drop, bl_len]; omega, ?_⟩
      rw [drop_get (by omega)]
      simp only [show f + (k - f) = k by omega]
      exact hb)
theorem ext_part (s : ByteArray) (f k : Nat) : s.extract f k = ⟨(((bl s).drop f).take (k - f)).toArray⟩ := bl_ext (by rw [bl_extract, bl_mk (((bl s).drop f).take (k - f))])
theorem nextS {s : ByteArray} {f k : Nat} (h1 : f ≤ k) (h : k < s.size) : nextL ((bl s).drop f) (k - f) = letterB s[k] := by
  rw [nextL_at (by rw [List.length_drop, bl_len]; omega), drop_get (by omega)]
  simp only [show f + (k - f) = k by omega]
theorem nextS_end {s : ByteArray} {f k : Nat} (h : s.size ≤ k) : nextL ((bl s).drop f) (k - f) = false := nextL_end (by rw [List.length_drop, bl_len]; omega)
theorem digits_part {x : ByteArray} {l : List UInt8} {n : Nat} (hx : bl x = l.take n) (hn : n ≤ runP digitB l) : ∀ j (h : j < x.size), digitB x[j] = true := fun j h => by
  have e1 : (bl x)[j]? = some x[j] := Lib.data_getElem? x j h
  rw [hx] at e1
  obtain ⟨hl, he⟩ := List.getElem?_eq_some_iff.1 e1
  rw [← he, List.getElem_take]
  rw [List.length_take] at hl
  exact runP_all digitB _ _ _ (by omega)
def UpAt (s : ByteArray) (p : UInt8 → Bool) (c : Nat) (V : World) (i : Value) (wr : World) : Prop := ∃ j : Nat, c ≤ j ∧ j ≤ s.size ∧ i = .int .i64 j ∧ wr = V ∧ ∀ k (h : k < s.size), c ≤ k → k < j → p s[k] = true
theorem up_next {s : ByteArray} {p : UInt8 → Bool} {c j : Nat} {hj : j < s.size} (h : ∀ k (h : k < s.size), c ≤ k → k < j → p s[k] = true) (hp : p s[j] = true) : ∀ k (h : k < s.size), c ≤ k → k < j + 1 → p s[k] = true := fun k hk h1 h2 => by
  by_cases e : k = j
  · subst e; exact hp
  · exact h k hk h1 (by omega)
set_option maxHeartbeats 2000000 in
set_option maxRecDepth 100000 in
theorem rone7_any (s : ByteArray) (a : Int) (hs : s.size ≤ 1000000) (w : World) : Gives Tryd.prog 13 #[.string s, .int .i64 a] w (toV (oneT (bl s) a)) := by
  unfold oneT
  rw [bl_len]
  have hc := clampI_le s.size a
  have hca : (a < 0 ∧ clampI s.size a = 0) ∨ (0 ≤ a ∧ (s.size : Int) < a ∧ clampI s.size a = s.size) ∨ (0 ≤ a ∧ a ≤ (s.size : Int) ∧ (clampI s.size a : Int) = a) := by
    unfold clampI
    rcases (by omega : a < 0 ∨ (0 ≤ a ∧ (s.size : Int) < a) ∨ (0 ≤ a ∧ a ≤ (s.size : Int))) with h | ⟨h1, h2⟩ | ⟨h1, h2⟩
    · exact Or.inl ⟨h, if_pos h⟩
    · exact Or.inr (Or.inl ⟨h1, h2, by rw [if_neg (by omega), if_pos h2]⟩)
    · exact Or.inr (Or.inr ⟨h1, h2, by rw [if_neg (by omega), if_neg (by omega)]; omega⟩)
  generalize clampI s.size a = c at *
  obtain ⟨fin, hfin⟩ : ∃ fin, toV (toT c (firstP (bl s) c) (hereT ((bl s).drop (firstP (bl s) c)))) = fin := ⟨_, rfl⟩
  rw [hfin]
  have HF : Hid (∀ f, firstP (bl s) c = f → fin = toV (toT c f (hereT ((bl s).drop f)))) := Lib.hid fun f hf => by rw [← hfin, hf]
  clear hfin
  obtain ⟨W0, hW0⟩ : ∃ W0, W0 = w.alloc (.cells #[.int .i64 0, .string ⟨#[]⟩, .int .i64 0, .int .i64 0] 33) := ⟨_, rfl⟩
  have HG : Hid (Grew w W0) := Lib.hid (by rw [hW0]; exact (Grew.refl w).alloc _)
  have HB : Hid (Blok W0 w.heap.size 33 #[.int .i64 0, .string ⟨#[]⟩, .int .i64 0, .int .i64 0]) := Lib.hid (by rw [hW0]; exact Blok.new _ _ _ _ rfl)
  unfold Gives
  go_enter Tryd.func13, Tryd.ntmps13
  go_upto_region 1 with fail
  rw [← hW0]
  clear hW0
  obtain ⟨z0, z1, z2, z3, z4, z5, z6, z7, z8⟩ := tk_in HB.out
  obtain ⟨a1, ha1⟩ : ∃ a1, (if a < 0 then 0 else a) = a1 := ⟨_, rfl⟩
  have HA1 := Lib.hid ha1
  clear ha1
  go_upto_if 13 with fail
  go_cut [1] (fun v wx => v = .int .i64 a1 ∧ wx = W0)
  case first =>
    by_cases h : a < 0
    · have e : a1 = 0 := by rw [← HA1.out, if_pos h]
      subst e
      clear HA1
      go_wp2
      go_meet
      exact ⟨rfl, rfl⟩
    · have e : a1 = a := by rw [← HA1.out, if_neg h]
      subst e
      clear HA1
      have h' : (0 : Int) ≤ a1 := by omega
      go_wp2
      go_meet
      exact ⟨rfl, rfl⟩
  case rest =>
  obtain ⟨rfl, hwc⟩ := hcut
  have hwc := hwc.symm
  subst hwc
  have hca1 : ((s.size : Int) < a1 ∧ c = s.size) ∨ (a1 ≤ (s.size : Int) ∧ a1 = (c : Int)) := by
    have e := HA1.out
    rcases hca with ⟨h1, h2⟩ | ⟨h1, h2, h3⟩ | ⟨h1, h2, h3⟩
    · rw [if_pos h1] at e
      exact Or.inr ⟨by omega, by omega⟩
    · rw [if_neg (by omega)] at e
      exact Or.inl ⟨by omega, h3⟩
    · rw [if_neg (by omega)] at e
      exact Or.inr ⟨by omega, by omega⟩
  clear hca HA1
  go_upto_if 17 with fail
  go_cut [1] (fun v wx => v = .int .i64 (c : Int) ∧ wx = W0)
  case first =>
    rcases hca1 with ⟨h1, h2⟩ | ⟨h1, h2⟩
    · subst h2
      go_wp2
      go_meet
      exact ⟨rfl, rfl⟩
    · subst h2
      go_wp2
      go_meet
      exact ⟨rfl, rfl⟩
  case rest =>
  obtain ⟨rfl, hwc⟩ := hcut
  have hwc := hwc.symm
  subst hwc
  clear hca1
  obtain ⟨f, hf⟩ : ∃ f, firstP (bl s) c = f := ⟨_, rfl⟩
  have hfl : f ≤ s.size := by
    rw [← hf]
    have := firstP_le (l := bl s) (a := c) (by rw [bl_len]; exact hc)
    rwa [bl_len] at this
  have hfin := HF.out f hf
  have HFirst : Hid (∀ j, c ≤ j → j ≤ s.size → (∀ k (h : k < s.size), c ≤ k → k < j → blankB s[k] = true) → (j = s.size ∨ ∃ h : j < s.size, blankB s[j] = false) → j = f) := Lib.hid fun j h1 h2 h3 h4 => (firstP_at h1 h2 h3 h4).symm.trans hf
  clear hf HF
  go_upto_block 0 with fail
  go_cut [7] (fun v wx => v = .int .i64 (f : Int) ∧ wx = W0)
  case first =>
    go_wp2_with fail
    go_loopw [7] (fun i wr => UpAt s blankB c W0 i wr) (fun i _ => s.size - (intOf i).toNat)
    case atStart => exact ⟨c, Nat.le_refl _, hc, rfl, rfl, fun k _ h1 h2 => absurd h2 (by omega)⟩
    case round =>
      obtain ⟨j, hcj, hj, rfl, hwr, hk⟩ := hrel
      have hwr := hwr.symm
      subst hwr
      have HK := Lib.hid hk
      clear hk
      by_cases h : j < s.size
      · have HBl := Lib.hid (rblank_any (s[j]'h))
        cases hb : blankB (s[j]'h)
        · have e := HFirst.out j hcj hj HK.out (Or.inr ⟨h, hb⟩)
          subst e
          rw [hb] at HBl
          clear HK HFirst hb hfin
          go_wp2_with (go_at_call 17; (with_reducible refine (HBl.out _).mono ?_); rintro e w9 ⟨rfl, hw9⟩; have hw9 := hw9.symm; subst hw9)
          go_meet
          exact ⟨rfl, rfl⟩
        · have HK1 := Lib.hid (up_next (hj := h) HK.out hb)
          rw [hb] at HBl
          clear HK HFirst hb hfin
          go_wp2_with (go_at_call 17; (with_reducible refine (HBl.out _).mono ?_); rintro e w9 ⟨rfl, hw9⟩; have hw9 := hw9.symm; subst hw9)
          exact ⟨⟨j + 1, by omega, by omega, by go_num, rfl, HK1.out⟩, by simp only [intOf]; omega⟩
      · obtain rfl : j = s.size := by omega
        have e := HFirst.out s.size hcj (Nat.le_refl _) HK.out (Or.inl rfl)
        subst e
        clear HK HFirst hfin
        go_wp2
        go_meet
        exact ⟨rfl, rfl⟩
  case rest =>
  obtain ⟨rfl, hwc⟩ := hcut
  have hwc := hwc.symm
  subst hwc
  clear HFirst
  rcases Nat.lt_or_ge f s.size with hlt | hge
  rotate_left
  · obtain rfl : f = s.size := by omega
    rw [List.drop_of_length_le (by rw [bl_len]; exact Nat.le_refl _)] at hfin
    subst hfin
    go_wp2
    have hb := tk_set HB.out (.int .i64 0) (.string ⟨#[]⟩) (.int .i64 0) (.int .i64 (s.size : Int))
    obtain ⟨_, r0, r1, r2, r3, _, _, _, _⟩ := tk_in hb
    exact bodyPost_ret (v := .tuple #[.agg #[.int .i64 0, .string ⟨#[]⟩, .int .i64 0, .int .i64 (s.size : Int)], .int .i64 (s.size : Int), .int .i64 0]) (by simp [results, Tryd.results13, go_sem, r0, r1, r2, r3]) rfl ⟨rfl, grew_tk HG.out (Nat.le_refl _) _ _ _ _⟩
  have hne : ((f : Int) == (s.size : Int)) = false := by rw [beq_eq_false_iff_ne]; omega
  rw [hereT_cons hlt] at hfin
  cases hlet : letterB (s[f]'hlt)
  rotate_left
  · have HLet := Lib.hid (rletter_any (s[f]'hlt))
    rw [hlet] at HLet hfin
    rw [if_pos rfl] at hfin
    clear hlet
    have hfin2 := Lib.hid hfin
    clear hfin
    obtain ⟨n, hn⟩ : ∃ n, runP namedB ((bl s).drop f) = n := ⟨_, rfl⟩
    have hnl := runP_le namedB ((bl s).drop f)
    rw [List.length_drop, bl_len, hn] at hnl
    obtain ⟨k, hk⟩ : ∃ k, f + n = k := ⟨_, rfl⟩
    have HEnd : Hid (∀ j, f ≤ j → j ≤ s.size → (∀ q (h : q < s.size), f ≤ q → q < j → namedB s[q] = true) → (j = s.size ∨ ∃ h : j < s.size, namedB s[j] = false) → j = k) := Lib.hid fun j h1 h2 h3 h4 => by
      have := runS_at h1 h2 h3 h4
      rw [hn] at this
      omega
    have hkl : k ≤ s.size := by omega
    have HK := Lib.hid hk
    have HNn := Lib.hid hn
    clear hk hn hnl
    go_upto_block 2 with (go_at_call 23; (with_reducible refine (HLet.out _).mono ?_); rintro e w9 ⟨rfl, hw9⟩; have hw9 := hw9.symm; subst hw9)
    go_cut [8] (fun v wx => v = .int .i64 (k : Int) ∧ wx = W0)
    case first =>
      go_wp2_with fail
      go_loopw [8] (fun i wr => UpAt s namedB f W0 i wr) (fun i _ => s.size - (intOf i).toNat)
      case atStart => exact ⟨f, Nat.le_refl _, by omega, rfl, rfl, fun k _ h1 h2 => absurd h2 (by omega)⟩
      case round =>
        obtain ⟨j, hcj, hj, rfl, hwr, hkk⟩ := hrel
        have hwr := hwr.symm
        subst hwr
        have HKK := Lib.hid hkk
        clear hkk HLet
        by_cases h : j < s.size
        · have HLt := Lib.hid (rletter_any (s[j]'h))
          have HDg := Lib.hid (rdigit_any (s[j]'h))
          cases hb : letterB (s[j]'h)
          · rw [hb] at HLt
            cases hd : digitB (s[j]'h)
            · have e := HEnd.out j hcj hj HKK.out (Or.inr ⟨h, by unfold namedB; rw [hb, hd]; rfl⟩)
              rw [hd] at HDg
              clear HKK HEnd hb hd HK HNn
              subst e
              go_wp2_with (first | (go_at_call 23; (with_reducible refine (HLt.out _).mono ?_); rintro e w9 ⟨rfl, hw9⟩; have hw9 := hw9.symm; subst hw9) | (go_at_call 24; (with_reducible refine (HDg.out _).mono ?_); rintro e w9 ⟨rfl, hw9⟩; have hw9 := hw9.symm; subst hw9))
              go_meet
              exact ⟨rfl, rfl⟩
            · have HK1 := Lib.hid (up_next (hj := h) HKK.out (by unfold namedB; rw [hb, hd]; rfl))
              rw [hd] at HDg
              clear HKK HEnd hb hd HK HNn
              go_wp2_with (first | (go_at_call 23; (with_reducible refine (HLt.out _).mono ?_); rintro e w9 ⟨rfl, hw9⟩; have hw9 := hw9.symm; subst hw9) | (go_at_call 24; (with_reducible refine (HDg.out _).mono ?_); rintro e w9 ⟨rfl, hw9⟩; have hw9 := hw9.symm; subst hw9))
              exact ⟨⟨j + 1, by omega, by omega, by go_num, rfl, HK1.out⟩, by simp only [intOf]; omega⟩
          · have HK1 := Lib.hid (up_next (hj := h) HKK.out (by unfold namedB; rw [hb]; rfl))
            rw [hb] at HLt
            clear HKK HEnd hb HK HNn
            go_wp2_with (first | (go_at_call 23; (with_reducible refine (HLt.out _).mono ?_); rintro e w9 ⟨rfl, hw9⟩; have hw9 := hw9.symm; subst hw9) | (go_at_call 24; (with_reducible refine (HDg.out _).mono ?_); rintro e w9 ⟨rfl, hw9⟩; have hw9 := hw9.symm; subst hw9))
            exact ⟨⟨j + 1, by omega, by omega, by go_num, rfl, HK1.out⟩, by simp only [intOf]; omega⟩
        · obtain rfl : j = s.size := by omega
          have e := HEnd.out s.size hcj (Nat.le_refl _) HKK.out (Or.inl rfl)
          clear HKK HEnd HK HNn
          subst e
          go_wp2
          go_meet
          exact ⟨rfl, rfl⟩
    case rest =>
    obtain ⟨rfl, hwc⟩ := hcut
    have hwc := hwc.symm
    subst hwc
    clear HEnd HLet
    have e1 : IntKind.i64.wrap ((k : Int) - (f : Int)) = (n : Int) := by have := HK.out; rw [IntWalk.i64_in _ (by omega)]; omega
    have hw := hfin2.out
    unfold wordT at hw
    rw [HNn.out] at hw
    by_cases h32 : 32 < n
    · rw [if_pos h32] at hw
      subst hw
      have h32d : decide ((32 : Int) < (n : Int)) = true := by simp; omega
      have h32i : (32 : Int) < (n : Int) := by omega
      clear hfin2 HK HNn h32
      go_wp2
      have hb := tk_set HB.out (.int .i64 0) (.string ⟨#[]⟩) (.int .i64 0) (.int .i64 0)
      obtain ⟨_, r0, r1, r2, r3, _, _, _, _⟩ := tk_in hb
      exact bodyPost_ret (v := .tuple #[.agg #[.int .i64 0, .string ⟨#[]⟩, .int .i64 0, .int .i64 0], .int .i64 (c : Int), .int .i64 1]) (by simp [results, Tryd.results13, go_sem, r0, r1, r2, r3]) rfl ⟨rfl, grew_tk HG.out (Nat.le_refl _) _ _ _ _⟩
    · rw [if_neg h32] at hw
      have HX : Hid ((⟨(((bl s).drop f).take n).toArray⟩ : ByteArray) = s.extract f k) := Lib.hid (by rw [ext_part, show k - f = n by have := HK.out; omega])
      have h32d : decide ((32 : Int) < (n : Int)) = false := by simp; omega
      have h32i : (n : Int) ≤ (32 : Int) := by omega
      have hkf : f ≤ k := by have := HK.out; omega
      have HWd := Lib.hid (rword_any (s.extract f k))
      rw [HX.out] at hw
      have hTo : ∀ kd : Int, toT c f ⟨kd, ((bl s).drop f).take n, 0, n, 0⟩ = ⟨kd, ((bl s).drop f).take n, 0, f, k, 0⟩ := fun kd => by
        show To.mk _ _ _ _ _ _ = _
        rw [HK.out]
      cases hwb : wordB (s.extract f k)
      · rw [hwb] at hw HWd
        rw [if_neg (by simp), hTo] at hw
        subst hw
        clear hfin2 HK HNn h32 hTo hwb
        go_wp2_with (go_at_call 25; (with_reducible refine (HWd.out _).grows.mono ?_); rintro e w2 ⟨rfl, hg2⟩; have HG2 := Lib.hid (HG.out.trans hg2); have HB2 := Lib.hid (HB.out.grew hg2); clear z0 z1 z2 z3 z4 z5 z6 z7 z8; obtain ⟨z0, z1, z2, z3, z4, z5, z6, z7, z8⟩ := tk_in HB2.out; clear hg2)
        have hb := tk_set HB2.out (.int .i64 1) (.string (s.extract f k)) (.int .i64 0) (.int .i64 (f : Int))
        obtain ⟨_, r0, r1, r2, r3, _, _, _, _⟩ := tk_in hb
        exact bodyPost_ret (v := .tuple #[.agg #[.int .i64 1, .string (s.extract f k), .int .i64 0, .int .i64 (f : Int)], .int .i64 (k : Int), .int .i64 0]) (by simp [results, Tryd.results13, go_sem, r0, r1, r2, r3]) rfl ⟨by unfold toV; simp only; rw [HX.out], grew_tk HG2.out (Nat.le_refl _) _ _ _ _⟩
      · rw [hwb] at hw HWd
        rw [if_pos rfl, hTo] at hw
        subst hw
        clear hfin2 HK HNn h32 hTo hwb
        go_wp2_with (go_at_call 25; (with_reducible refine (HWd.out _).grows.mono ?_); rintro e w2 ⟨rfl, hg2⟩; have HG2 := Lib.hid (HG.out.trans hg2); have HB2 := Lib.hid (HB.out.grew hg2); clear z0 z1 z2 z3 z4 z5 z6 z7 z8; obtain ⟨z0, z1, z2, z3, z4, z5, z6, z7, z8⟩ := tk_in HB2.out; clear hg2)
        have hb := tk_set HB2.out (.int .i64 2) (.string (s.extract f k)) (.int .i64 0) (.int .i64 (f : Int))
        obtain ⟨_, r0, r1, r2, r3, _, _, _, _⟩ := tk_in hb
        exact bodyPost_ret (v := .tuple #[.agg #[.int .i64 2, .string (s.extract f k), .int .i64 0, .int .i64 (f : Int)], .int .i64 (k : Int), .int .i64 0]) (by simp [results, Tryd.results13, go_sem, r0, r1, r2, r3]) rfl ⟨by unfold toV; simp only; rw [HX.out], grew_tk HG2.out (Nat.le_refl _) _ _ _ _⟩
  have HLet := Lib.hid (rletter_any (s[f]'hlt))
  rw [hlet] at HLet hfin
  rw [if_neg (by simp)] at hfin
  clear hlet
  cases hdig : digitB (s[f]'hlt)
  rotate_left
  · have HDig := Lib.hid (rdigit_any (s[f]'hlt))
    rw [hdig] at HDig hfin
    rw [if_pos rfl] at hfin
    clear hdig
    have hfin2 := Lib.hid hfin
    clear hfin
    obtain ⟨n, hn⟩ : ∃ n, runP digitB ((bl s).drop f) = n := ⟨_, rfl⟩
    have hnl := runP_le digitB ((bl s).drop f)
    rw [List.length_drop, bl_len, hn] at hnl
    obtain ⟨k, hk⟩ : ∃ k, f + n = k := ⟨_, rfl⟩
    have HEnd : Hid (∀ j, f ≤ j → j ≤ s.size → (∀ q (h : q < s.size), f ≤ q → q < j → digitB s[q] = true) → (j = s.size ∨ ∃ h : j < s.size, digitB s[j] = false) → j = k) := Lib.hid fun j h1 h2 h3 h4 => by
      have := runS_at h1 h2 h3 h4
      rw [hn] at this
      omega
    have hkl : k ≤ s.size := by omega
    have HK := Lib.hid hk
    have HNn := Lib.hid hn
    clear hk hn hnl
    go_upto_block 4 with (first | (go_at_call 23; (with_reducible refine (HLet.out _).mono ?_); rintro e w9 ⟨rfl, hw9⟩; have hw9 := hw9.symm; subst hw9) | (go_at_call 24; (with_reducible refine (HDig.out _).mono ?_); rintro e w9 ⟨rfl, hw9⟩; have hw9 := hw9.symm; subst hw9))
    go_cut [8] (fun v wx => v = .int .i64 (k : Int) ∧ wx = W0)
    case first =>
      go_wp2_with fail
      go_loopw [8] (fun i wr => UpAt s digitB f W0 i wr) (fun i _ => s.size - (intOf i).toNat)
      case atStart => exact ⟨f, Nat.le_refl _, by omega, rfl, rfl, fun k _ h1 h2 => absurd h2 (by omega)⟩
      case round =>
        obtain ⟨j, hcj, hj, rfl, hwr, hkk⟩ := hrel
        have hwr := hwr.symm
        subst hwr
        have HKK := Lib.hid hkk
        clear hkk HLet HDig
        by_cases h : j < s.size
        · have HDg := Lib.hid (rdigit_any (s[j]'h))
          cases hd : digitB (s[j]'h)
          · have e := HEnd.out j hcj hj HKK.out (Or.inr ⟨h, hd⟩)
            rw [hd] at HDg
            clear HKK HEnd hd HK HNn
            subst e
            go_wp2_with (go_at_call 24; (with_reducible refine (HDg.out _).mono ?_); rintro e w9 ⟨rfl, hw9⟩; have hw9 := hw9.symm; subst hw9)
            go_meet
            exact ⟨rfl, rfl⟩
          · have HK1 := Lib.hid (up_next (hj := h) HKK.out hd)
            rw [hd] at HDg
            clear HKK HEnd hd HK HNn
            go_wp2_with (go_at_call 24; (with_reducible refine (HDg.out _).mono ?_); rintro e w9 ⟨rfl, hw9⟩; have hw9 := hw9.symm; subst hw9)
            exact ⟨⟨j + 1, by omega, by omega, by go_num, rfl, HK1.out⟩, by simp only [intOf]; omega⟩
        · obtain rfl : j = s.size := by omega
          have e := HEnd.out s.size hcj (Nat.le_refl _) HKK.out (Or.inl rfl)
          clear HKK HEnd HK HNn
          subst e
          go_wp2
          go_meet
          exact ⟨rfl, rfl⟩
    case rest =>
    obtain ⟨rfl, hwc⟩ := hcut
    have hwc := hwc.symm
    subst hwc
    clear HEnd HLet HDig
    have hkf : f ≤ k := by have := HK.out; omega
    have hkn : k - f = n := by have := HK.out; omega
    have hbx : bl (s.extract f k) = ((bl s).drop f).take n := by rw [bl_extract, hkn]
    have HX : Hid ((⟨(((bl s).drop f).take n).toArray⟩ : ByteArray) = s.extract f k) := Lib.hid (by rw [ext_part, hkn])
    have HNum := Lib.hid (rnumber7_any (s.extract f k) (by rw [ByteArray.size_extract]; omega) (digits_part hbx (by rw [HNn.out]; exact Nat.le_refl _)))
    rw [hbx] at HNum
    have hw := hfin2.out
    unfold numT at hw
    rw [HNn.out] at hw
    have HNxt : Hid (nextL ((bl s).drop f) n = true ↔ ∃ h : k < s.size, letterB s[k] = true) := Lib.hid (by
      rw [← hkn]
      rcases Nat.lt_or_ge k s.size with h | h
      · rw [nextS hkf h]
        exact ⟨fun e => ⟨h, e⟩, fun ⟨_, e⟩ => e⟩
      · rw [nextS_end h]
        exact ⟨fun e => (by cases e), fun ⟨h2, _⟩ => absurd h2 (by omega)⟩)
    have hTo : ∀ v : Int, toT c f ⟨3, ((bl s).drop f).take n, v, n, 0⟩ = ⟨3, ((bl s).drop f).take n, v, f, k, 0⟩ := fun v => by
      show To.mk _ _ _ _ _ _ = _
      rw [HK.out]
    clear hkn hbx
    generalize numV (((bl s).drop f).take n) = v at *
    by_cases hbig : bigN < v
    · rw [if_pos (Or.inr hbig)] at hw
      rw [if_pos hbig] at HNum
      subst hw
      clear hfin2 HK HNn HNxt hTo hbig
      go_wp2_with (go_at_call 26; (with_reducible refine (HNum.out _).grows.mono ?_); rintro e w2 ⟨rfl, hg2⟩; have HG2 := Lib.hid (HG.out.trans hg2); have HB2 := Lib.hid (HB.out.grew hg2); clear z0 z1 z2 z3 z4 z5 z6 z7 z8; obtain ⟨z0, z1, z2, z3, z4, z5, z6, z7, z8⟩ := tk_in HB2.out; clear hg2)
      have hb := tk_set HB2.out (.int .i64 0) (.string ⟨#[]⟩) (.int .i64 0) (.int .i64 0)
      obtain ⟨_, r0, r1, r2, r3, _, _, _, _⟩ := tk_in hb
      exact bodyPost_ret (v := .tuple #[.agg #[.int .i64 0, .string ⟨#[]⟩, .int .i64 0, .int .i64 0], .int .i64 (c : Int), .int .i64 1]) (by simp [results, Tryd.results13, go_sem, r0, r1, r2, r3]) rfl ⟨rfl, grew_tk HG2.out (Nat.le_refl _) _ _ _ _⟩
    · rw [if_neg hbig] at HNum
      rcases Nat.lt_or_ge k s.size with hks | hks
      · have HLt := Lib.hid (rletter_any (s[k]'hks))
        cases hl2 : letterB (s[k]'hks)
        · rw [hl2] at HLt
          rw [if_neg (by rintro (h | h); obtain ⟨_, h2⟩ := HNxt.out.1 h; rw [hl2] at h2; cases h2; exact hbig h), hTo] at hw
          subst hw
          clear hfin2 HK HNn HNxt hTo hbig hl2
          go_wp2_with (first | (go_at_call 26; (with_reducible refine (HNum.out _).grows.mono ?_); rintro e w2 ⟨rfl, hg2⟩; have HG2 := Lib.hid (HG.out.trans hg2); have HB2 := Lib.hid (HB.out.grew hg2); clear z0 z1 z2 z3 z4 z5 z6 z7 z8; obtain ⟨z0, z1, z2, z3, z4, z5, z6, z7, z8⟩ := tk_in HB2.out; clear hg2) | (go_at_call 23; (with_reducible refine (HLt.out _).mono ?_); rintro e w9 ⟨rfl, hw9⟩; have hw9 := hw9.symm; subst hw9))
          have hb := tk_set HB2.out (.int .i64 3) (.string (s.extract f k)) (.int .i64 (v : Int)) (.int .i64 (f : Int))
          obtain ⟨_, r0, r1, r2, r3, _, _, _, _⟩ := tk_in hb
          exact bodyPost_ret (v := .tuple #[.agg #[.int .i64 3, .string (s.extract f k), .int .i64 (v : Int), .int .i64 (f : Int)], .int .i64 (k : Int), .int .i64 0]) (by simp [results, Tryd.results13, go_sem, r0, r1, r2, r3]) rfl ⟨by unfold toV; simp only; rw [HX.out], grew_tk HG2.out (Nat.le_refl _) _ _ _ _⟩
        · rw [hl2] at HLt
          rw [if_pos (Or.inl (HNxt.out.2 ⟨hks, hl2⟩))] at hw
          subst hw
          clear hfin2 HK HNn HNxt hTo hbig hl2
          go_wp2_with (first | (go_at_call 26; (with_reducible refine (HNum.out _).grows.mono ?_); rintro e w2 ⟨rfl, hg2⟩; have HG2 := Lib.hid (HG.out.trans hg2); have HB2 := Lib.hid (HB.out.grew hg2); clear z0 z1 z2 z3 z4 z5 z6 z7 z8; obtain ⟨z0, z1, z2, z3, z4, z5, z6, z7, z8⟩ := tk_in HB2.out; clear hg2) | (go_at_call 23; (with_reducible refine (HLt.out _).mono ?_); rintro e w9 ⟨rfl, hw9⟩; have hw9 := hw9.symm; subst hw9))
          have hb := tk_set HB2.out (.int .i64 0) (.string ⟨#[]⟩) (.int .i64 0) (.int .i64 0)
          obtain ⟨_, r0, r1, r2, r3, _, _, _, _⟩ := tk_in hb
          exact bodyPost_ret (v := .tuple #[.agg #[.int .i64 0, .string ⟨#[]⟩, .int .i64 0, .int .i64 0], .int .i64 (c : Int), .int .i64 1]) (by simp [results, Tryd.results13, go_sem, r0, r1, r2, r3]) rfl ⟨rfl, grew_tk HG2.out (Nat.le_refl _) _ _ _ _⟩
      · rw [if_neg (by rintro (h | h); obtain ⟨h2, _⟩ := HNxt.out.1 h; omega; exact hbig h), hTo] at hw
        subst hw
        have hks' : (s.size : Int) ≤ (k : Int) := by omega
        clear hfin2 HK HNn HNxt hTo hbig
        go_wp2_with (first | (go_at_call 26; (with_reducible refine (HNum.out _).grows.mono ?_); rintro e w2 ⟨rfl, hg2⟩; have HG2 := Lib.hid (HG.out.trans hg2); have HB2 := Lib.hid (HB.out.grew hg2); clear z0 z1 z2 z3 z4 z5 z6 z7 z8; obtain ⟨z0, z1, z2, z3, z4, z5, z6, z7, z8⟩ := tk_in HB2.out; clear hg2) | (go_at_call 23; (with_reducible refine (HLt.out _).mono ?_); rintro e w9 ⟨rfl, hw9⟩; have hw9 := hw9.symm; subst hw9))
        have hb := tk_set HB2.out (.int .i64 3) (.string (s.extract f k)) (.int .i64 (v : Int)) (.int .i64 (f : Int))
        obtain ⟨_, r0, r1, r2, r3, _, _, _, _⟩ := tk_in hb
        exact bodyPost_ret (v := .tuple #[.agg #[.int .i64 3, .string (s.extract f k), .int .i64 (v : Int), .int .i64 (f : Int)], .int .i64 (k : Int), .int .i64 0]) (by simp [results, Tryd.results13, go_sem, r0, r1, r2, r3]) rfl ⟨by unfold toV; simp only; rw [HX.out], grew_tk HG2.out (Nat.le_refl _) _ _ _ _⟩
  have HDig := Lib.hid (rdigit_any (s[f]'hlt))
  rw [hdig] at HDig hfin
  rw [if_neg (by simp)] at hfin
  clear hdig
  by_cases h39 : (s[f]'hlt).toNat = 39
  · rw [if_pos h39] at hfin
    have h39' : (((s[f]'hlt).toNat : Int) == 39) = true := by rw [h39]; rfl
    have HTx := Lib.hid (rtext7_any s c f hs hlt)
    rw [← hfin] at HTx
    have hTo : ∃ R : To, fin = toV R := ⟨_, hfin⟩
    clear hfin h39
    obtain ⟨R, rfl⟩ := hTo
    unfold toV at HTx
    go_wp2_with (first | (go_at_call 23; (with_reducible refine (HLet.out _).mono ?_); rintro e w9 ⟨rfl, hw9⟩; have hw9 := hw9.symm; subst hw9) | (go_at_call 24; (with_reducible refine (HDig.out _).mono ?_); rintro e w9 ⟨rfl, hw9⟩; have hw9 := hw9.symm; subst hw9) | (go_at_call 27; (with_reducible refine (HTx.out _).grows.mono ?_); rintro e w2 ⟨rfl, hg2⟩; have HG2 := Lib.hid (HG.out.trans hg2); have HB2 := Lib.hid (HB.out.grew hg2); clear z0 z1 z2 z3 z4 z5 z6 z7 z8; obtain ⟨z0, z1, z2, z3, z4, z5, z6, z7, z8⟩ := tk_in HB2.out; clear hg2))
    have hb := tk_set HB2.out (.int .i64 R.k) (.string ⟨R.t.toArray⟩) (.int .i64 R.i) (.int .i64 R.at')
    obtain ⟨_, r0, r1, r2, r3, _, _, _, _⟩ := tk_in hb
    exact bodyPost_ret (v := .tuple #[.agg #[.int .i64 R.k, .string ⟨R.t.toArray⟩, .int .i64 R.i, .int .i64 R.at'], .int .i64 R.next, .int .i64 R.e]) (by simp [results, Tryd.results13, go_sem, r0, r1, r2, r3]) rfl ⟨rfl, grew_tk HG2.out (Nat.le_refl _) _ _ _ _⟩
  · rw [if_neg h39] at hfin
    have h39' : (((s[f]'hlt).toNat : Int) == 39) = false := by rw [beq_eq_false_iff_ne]; omega
    have HSg := Lib.hid (rsign7_any s (f : Int) hs)
    have hsi : signI (bl s) (f : Int) = signP ((bl s).drop f) := by
      unfold signI
      rw [if_pos ⟨by omega, by rw [bl_len]; omega⟩, Int.toNat_natCast]
    rw [hsi] at HSg
    have hgl := signP_le ((bl s).drop f)
    unfold signT at hfin
    clear h39 hsi
    generalize signP ((bl s).drop f) = g at *
    by_cases hg : g = []
    · subst hg
      rw [if_pos rfl] at hfin
      subst hfin
      go_wp2_with (first | (go_at_call 23; (with_reducible refine (HLet.out _).mono ?_); rintro e w9 ⟨rfl, hw9⟩; have hw9 := hw9.symm; subst hw9) | (go_at_call 24; (with_reducible refine (HDig.out _).mono ?_); rintro e w9 ⟨rfl, hw9⟩; have hw9 := hw9.symm; subst hw9) | (go_at_call 15; (with_reducible refine (HSg.out _).grows.mono ?_); rintro e w2 ⟨rfl, hg2⟩; have HG2 := Lib.hid (HG.out.trans hg2); have HB2 := Lib.hid (HB.out.grew hg2); clear z0 z1 z2 z3 z4 z5 z6 z7 z8; obtain ⟨z0, z1, z2, z3, z4, z5, z6, z7, z8⟩ := tk_in HB2.out; clear hg2))
      have hb := tk_set HB2.out (.int .i64 0) (.string ⟨#[]⟩) (.int .i64 0) (.int .i64 0)
      obtain ⟨_, r0, r1, r2, r3, _, _, _, _⟩ := tk_in hb
      exact bodyPost_ret (v := .tuple #[.agg #[.int .i64 0, .string ⟨#[]⟩, .int .i64 0, .int .i64 0], .int .i64 (c : Int), .int .i64 1]) (by simp [results, Tryd.results13, go_sem, r0, r1, r2, r3]) rfl ⟨rfl, grew_tk HG2.out (Nat.le_refl _) _ _ _ _⟩
    · rw [if_neg hg] at hfin
      subst hfin
      have he1 : g.isEmpty = false := by
        cases g with
        | nil => exact absurd rfl hg
        | cons _ _ => rfl
      have he2 : (g == []) = false := by rw [beq_eq_false_iff_ne]; exact hg
      have hsz : (⟨g.toArray⟩ : ByteArray).size = g.length := mk_size _
      have hadd : IntKind.i64.wrap ((f : Int) + (g.length : Int)) = ((f + g.length : Nat) : Int) := by rw [IntWalk.i64_in _ (by omega)]; omega
      clear hg
      go_wp2_with (first | (go_at_call 23; (with_reducible refine (HLet.out _).mono ?_); rintro e w9 ⟨rfl, hw9⟩; have hw9 := hw9.symm; subst hw9) | (go_at_call 24; (with_reducible refine (HDig.out _).mono ?_); rintro e w9 ⟨rfl, hw9⟩; have hw9 := hw9.symm; subst hw9) | (go_at_call 15; (with_reducible refine (HSg.out _).grows.mono ?_); rintro e w2 ⟨rfl, hg2⟩; have HG2 := Lib.hid (HG.out.trans hg2); have HB2 := Lib.hid (HB.out.grew hg2); clear z0 z1 z2 z3 z4 z5 z6 z7 z8; obtain ⟨z0, z1, z2, z3, z4, z5, z6, z7, z8⟩ := tk_in HB2.out; clear hg2))
      have hb := tk_set HB2.out (.int .i64 5) (.string ⟨g.toArray⟩) (.int .i64 0) (.int .i64 (f : Int))
      obtain ⟨_, r0, r1, r2, r3, _, _, _, _⟩ := tk_in hb
      exact bodyPost_ret (v := .tuple #[.agg #[.int .i64 5, .string ⟨g.toArray⟩, .int .i64 0, .int .i64 (f : Int)], .int .i64 ((f + g.length : Nat) : Int), .int .i64 0]) (by simp [results, Tryd.results13, go_sem, r0, r1, r2, r3]) rfl ⟨rfl, grew_tk HG2.out (Nat.le_refl _) _ _ _ _⟩
end Go.Proofs.YtlmohihodhdcfaaDoor
