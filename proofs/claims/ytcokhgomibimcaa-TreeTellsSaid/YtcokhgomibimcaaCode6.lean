/- Layer 39: a number is read. -/
import Derived.Test.YtcokhgomibimcaaCode5
import Derived.Outline
import Derived.BigRegion
import Derived.Laws.DeepNot64
namespace Go.Proofs.Ytcokhgomibimcaa
open Go.RowKit
attribute [local go_sem] more_cell more_frozen more_more more_setCell more_of_drew more_of_drewN lt_more le_more past_cell past_cell2 past_frozen past_frozen2 past_setCell past_setCell2 mid_cell mid_frozen mid_setCell
attribute [local go_sem ↓] Go.wp_at_zero Go.wp_at_succ

/-- What reading a number leaves. -/
def NumF (u w : World) (g : Nat) (l : List Nat) (f : Bool) (e : Ending) (w' : World) : Prop :=
  Turns w w' g ∧ ((scan l 0 0 = none ∧ e = .returned (.int .i64 0) ∧ LeftIs u w' g [] true) ∨ ∃ z n, scan l 0 0 = some (z, n) ∧ e = .returned (.int .i64 (uz z)) ∧ LeftIs u w' g (l.drop n) f)
theorem brow_cell {w : World} {b o i x : Nat} {l : List Nat} (h : Row w (some ⟨b, o, none⟩) (bV l)) (hi : i < l.length) (hx : l[i] = x) : b < w.heap.size ∧ w.cell? ⟨b, o + i, none⟩ = some (.int .u8 (x : Int)) := by
  subst hx
  rcases h with h | ⟨b', o', hA, hb, hc⟩
  · exfalso
    have := congrArg List.length h
    unfold bV at this
    simp at this
    subst this
    simp at hi
  · injection hA with hA
    injection hA with e1 e2 _
    subst e1 e2
    exact ⟨hb, hc i _ (by simp [bV, hi])⟩
theorem brow_some {w : World} {A : Option Addr} {l : List Nat} {j : Nat} (h : Row w A (bV l)) (hj : j < l.length) : ∃ b o, A = some ⟨b, o, none⟩ := by
  rcases h with h1 | ⟨b, o, hA, _⟩
  · unfold bV at h1
    rw [List.map_eq_nil_iff] at h1
    subst h1
    simp at hj
  · exact ⟨b, o, hA⟩
theorem and127 : ∀ x, x < 256 → x &&& 127 = x % 128 := by decide +kernel
theorem low7 (x : Nat) (h : x < 256) : bits .and .u8 (x : Int) 127 = ((x % 128 : Nat) : Int) := by
  rw [show (127 : Int) = ((127 : Nat) : Int) from rfl, u8_and_nat x 127 (by omega) (by decide), and127 x h]
theorem part_le (x k : Nat) (hk : k ≤ 9) (h : k = 9 → x ≤ 1) : x % 128 * 128 ^ k ≤ 9223372036854775808 := by
  by_cases h9 : k = 9
  · subst h9
    have := h rfl
    have e : x % 128 ≤ 1 := by omega
    exact Nat.le_trans (Nat.mul_le_mul_right _ e) (by decide)
  · have e1 : 128 ^ k ≤ 128 ^ 8 := Nat.pow_le_pow_right (by decide) (by omega)
    have e2 : x % 128 ≤ 127 := by omega
    exact Nat.le_trans (Nat.mul_le_mul e2 e1) (by decide)
theorem part_word (x k : Nat) (hx : x < 256) (hk : k ≤ 9) (h : k = 9 → x ≤ 1) : IntKind.u64.wrap (IntKind.u64.wrap (bits .and .u8 (x : Int) 127) * 2 ^ (7 * k)) = ((x % 128 * 128 ^ k : Nat) : Int) := by
  have hb := part_le x k hk h
  rw [low7 x hx, wrapu, wrapu]
  have e1 : ((x % 128 : Nat) : Int) % 18446744073709551616 = ((x % 128 : Nat) : Int) := by omega
  have e2 : ((x % 128 : Nat) : Int) * 2 ^ (7 * k) = ((x % 128 * 128 ^ k : Nat) : Int) := by
    rw [show (2 : Int) ^ (7 * k) = ((128 ^ k : Nat) : Int) by rw [show (128 : Nat) ^ k = 2 ^ (7 * k) by rw [Nat.pow_mul]]; push_cast; rfl]
    push_cast
    rfl
  rw [e1, e2]
  generalize x % 128 * 128 ^ k = t at *
  omega
theorem or_word (x k u : Nat) (hk : k ≤ 9) (h : k = 9 → x ≤ 1) (hu : u < 128 ^ k) : bits .or .u64 (u : Int) ((x % 128 * 128 ^ k : Nat) : Int) = ((u + x % 128 * 128 ^ k : Nat) : Int) := by
  have hb := part_le x k hk h
  have hp : 128 ^ k ≤ 128 ^ 9 := Nat.pow_le_pow_right (by decide) hk
  have hp2 : (128 : Nat) ^ 9 = 9223372036854775808 := by decide
  have e : u ||| x % 128 * 128 ^ k = u + x % 128 * 128 ^ k := by
    rw [show (128 : Nat) ^ k = 2 ^ (7 * k) by rw [Nat.pow_mul]] at hu ⊢
    rw [Nat.or_comm, Nat.mul_comm, ← Nat.two_pow_add_eq_or_of_lt hu, Nat.add_comm]
  rw [u64_or_nat u _ (by omega) (by omega), e]
theorem ixor_comm (a b : Int) : bits .xor .i64 a b = bits .xor .i64 b a := by
  show IntKind.i64.wrap ((BitVec.ofInt 64 a ^^^ BitVec.ofInt 64 b).toNat : Int) = IntKind.i64.wrap ((BitVec.ofInt 64 b ^^^ BitVec.ofInt 64 a).toNat : Int)
  rw [BitVec.xor_comm]
theorem ixor_zero (a : Nat) (h : a < 9223372036854775808) : bits .xor .i64 (a : Int) 0 = (a : Int) := by
  have e := i64_not a h
  show IntKind.i64.wrap ((BitVec.ofInt 64 (a : Int) ^^^ BitVec.ofInt 64 0).toNat : Int) = (a : Int)
  rw [show BitVec.ofInt 64 0 = 0#64 from rfl, BitVec.xor_zero, ofInt_u64 a (by omega)]
  first
  | (rw [IntKind.wrap_i64]; unfold wrap64; omega)
  | (rw [IntKind.wrap_i64]; omega)
  | (unfold IntKind.wrap; simp [IntKind.signed, IntKind.bits]; omega)
theorem uz_word (z : Nat) (h : z < 18446744073709551616) : bits .xor .i64 (wrap64 ((z : Int) / 2)) (wrap64 (-wrap64 (bits .and .u64 (z : Int) 1))) = uz z := by
  have e1 : bits .and .u64 (z : Int) 1 = ((z % 2 : Nat) : Int) := by
    rw [show (1 : Int) = ((1 : Nat) : Int) from rfl, u64_and_nat z 1 h (by decide), Nat.and_one_is_mod]
  have e2 : wrap64 ((z : Int) / 2) = ((z / 2 : Nat) : Int) := by unfold wrap64; omega
  rw [e1, e2]
  unfold uz
  by_cases h1 : z % 2 = 1
  · rw [if_pos h1, h1, show wrap64 (-wrap64 ((1 : Nat) : Int)) = -1 from by unfold wrap64; omega, ixor_comm, i64_not _ (by omega)]
    omega
  · rw [if_neg h1, show z % 2 = 0 by omega, show wrap64 (-wrap64 ((0 : Nat) : Int)) = 0 from by unfold wrap64; omega, ixor_zero _ (by omega)]
/-- In the middle of a number. -/
def ReadAt (w : World) (l : List Nat) (v i : Value) (wr : World) : Prop :=
  ∃ (k u : Nat), k ≤ l.length ∧ k ≤ 9 ∧ i = .int .i64 k ∧ v = .int .u64 u ∧ u < 128 ^ k ∧ scan l 0 0 = scan (l.drop k) k u ∧ wr = w
set_option maxHeartbeats 2000000 in
set_option maxRecDepth 100000 in
theorem number_any (u0 : World) (g : Nat) (l : List Nat) (f : Bool) (hl : l.length ≤ 1000000) (hx : ∀ x ∈ l, x < 256) (w : World) (hg : LeftIs u0 w g l f) :
    Calls Try.prog 99 #[.pointer (some ⟨g, 0, none⟩)] w (NumF u0 w g l f) := by
  obtain ⟨A, m, hm, hb, hr0, hug, hgw⟩ := hg
  have hr := hr0.grew hgw
  have hn := row_apart hr0 hug
  have HR0 := Lib.hid hr0
  have HGW := Lib.hid hgw
  have HUG := Lib.hid hug
  clear hr0 hgw hug
  have HB := Lib.hid hb
  have HR := Lib.hid hr
  have HN := Lib.hid hn
  have HX := Lib.hid hx
  have c0 := hb.cell 0
  have c1 := hb.cell 1
  have z0 := hb.thaw 0
  have hlt := hb.lt
  clear hb hr hn hx
  simp at c0 c1
  go_enter Try.func99, Try.ntmps99
  go_wp2_with fail
  go_loopw [3, 11] (fun v i wr => ReadAt w l v i wr) (fun _ i _ => l.length - (intOf i).toNat)
  case atStart => exact ⟨0, 0, Nat.zero_le _, Nat.zero_le _, rfl, rfl, by decide, rfl, rfl⟩
  case round =>
    obtain ⟨k, u, hk, hk9, rfl, rfl, hu, hs, rfl⟩ := hrel
    have HU := Lib.hid hu
    have HS := Lib.hid hs
    clear hu hs
    by_cases h : k < l.length
    · obtain ⟨b, o, rfl⟩ := brow_some HR.out h
      have hkm : k < m := by omega
      obtain ⟨hb, cx⟩ := brow_cell HR.out h rfl
      have hxb := HX.out l[k] (List.getElem_mem h)
      have HD : Hid (scan l 0 0 = scan (l[k] :: l.drop (k + 1)) k u) := Lib.hid (by rw [HS.out, List.drop_eq_getElem_cons h])
      clear HS
      generalize l[k] = x at *
      by_cases hover : k = 9 ∧ 1 < x
      · have HZ : Hid (scan l 0 0 = none) := Lib.hid (by rw [HD.out, hover.1, scan_over _ _ _ hover.2])
        obtain ⟨h9, h1⟩ := hover
        subst h9
        have h1x : 1 < (x : Int) := by omega
        clear HU
        go_wp2_with (go_at_call 103; refine (fail_any g _ _ _ HB.out).mono ?_; rintro e w2 ⟨rfl, hb2, ht2⟩; have HB2 := Lib.hid hb2; have HT2 := Lib.hid ht2; clear hb2 ht2)
        go_ret
        exact ⟨HT2.out, Or.inl ⟨HZ.out, rfl, ⟨none, 0, rfl, HB2.out, Or.inl rfl, HUG.out, HT2.out.below HGW.out HUG.out⟩⟩⟩
      · have hk1 : k = 9 → x ≤ 1 := by omega
        have E1 := part_word x k hxb hk9 hk1
        have E2 := or_word x k u hk9 hk1 HU.out
        have HP := Lib.hid (part_le x k hk9 hk1)
        have HD1 : Hid (128 ≤ x → u + x % 128 * 128 ^ k < 128 ^ (k + 1) ∧ scan l 0 0 = scan (l.drop (k + 1)) (k + 1) (u + x % 128 * 128 ^ k)) := Lib.hid fun h2 => by
          refine ⟨?_, by rw [HD.out, scan_more _ _ _ _ hover h2]⟩
          have h3 := HU.out
          have h4 : x % 128 * 128 ^ k ≤ 127 * 128 ^ k := Nat.mul_le_mul_right _ (by omega)
          rw [Nat.pow_succ]
          omega
        have HD2 : Hid (x = 0 → 0 < k → scan l 0 0 = none) := Lib.hid fun h2 h3 => by rw [HD.out, scan_zero _ _ _ _ hover (by omega) h2 h3]
        have HD3 : Hid (¬ 128 ≤ x → ¬ (x = 0 ∧ 0 < k) → scan l 0 0 = some (u + x % 128 * 128 ^ k, k + 1)) := Lib.hid fun h2 h3 => by rw [HD.out, scan_one _ _ _ _ hover h2 h3]
        clear HD
        generalize x % 128 * 128 ^ k = t at *
        obtain ⟨z, hz3⟩ : ∃ z, u + t = z := ⟨_, rfl⟩
        rw [hz3] at E2 HD1 HD3
        have hcase : (((k : Int) == 9) = true ∧ decide (1 < (x : Int)) = false) ∨ ((k : Int) == 9) = false := by
          by_cases h : k = 9
          · exact Or.inl ⟨by simp; omega, by simp; omega⟩
          · exact Or.inr (by simp; omega)
        have HK1 := Lib.hid hk1
        clear hover hk1 HP
        rcases hcase with ⟨h9, h91⟩ | h9
        all_goals
          go_upto_region 7 with fail
          clear E1 E2 h9 hz3
          by_cases hbig : 128 ≤ x
          · have hbi : 128 ≤ (x : Int) := by omega
            have hk8 : k + 1 ≤ 9 := by
              by_cases h : k = 9
              · have := HK1.out h
                omega
              · omega
            have HD := Lib.hid (HD1.out hbig)
            clear HD1 HD2 HD3 HU
            go_wp2_with fail
            exact ⟨⟨k + 1, z, by omega, by omega, by go_num, rfl, HD.out.1, HD.out.2, rfl⟩, by simp only [intOf]; omega⟩
          · have hbi : ¬ 128 ≤ (x : Int) := by omega
            by_cases hz : x = 0 ∧ 0 < k
            · have HZ := Lib.hid (HD2.out hz.1 hz.2)
              have hz0 : ((x : Int) == 0) = true := by simp; omega
              have hz1 : 0 < (k : Int) := by omega
              clear hz HD1 HD2 HD3 HU
              go_wp2_with (go_at_call 103; refine (fail_any g _ _ _ HB.out).mono ?_; rintro e w2 ⟨rfl, hb2, ht2⟩; have HB2 := Lib.hid hb2; have HT2 := Lib.hid ht2; clear hb2 ht2)
              go_ret
              exact ⟨HT2.out, Or.inl ⟨HZ.out, rfl, ⟨none, 0, rfl, HB2.out, Or.inl rfl, HUG.out, HT2.out.below HGW.out HUG.out⟩⟩⟩
            · have HZ := Lib.hid (HD3.out hbig hz)
              have H64 := Lib.hid (vb_scan l HX.out z (k + 1) HZ.out).1
              have hx0 : ((x : Int) == 0) = false ∨ (((x : Int) == 0) = true ∧ ¬ 0 < (k : Int)) := by
                by_cases h : x = 0
                · exact Or.inr ⟨by simp; omega, by omega⟩
                · exact Or.inl (by simp; omega)
              rcases hx0 with hx1 | ⟨hx1, hx2⟩
              all_goals
                go_upto_region 9 with fail

                clear hbig hz HD1 HD2 HD3 hx1
                try clear hx2
                try clear h91
                have ek1 : k + 1 ≤ m := by omega
                clear hk9 HX cx hxb HU
                have EW := uz_word z H64.out
                go_region
                go_wp2
                · go_ret
                  have e : l.drop (k + 1) = [] := List.drop_of_length_le (by omega)
                  refine ⟨((Turns.refl _ _).set 0 _).grew (Grew.refl _).drew, Or.inr ⟨z, k + 1, HZ.out, rfl, ?_⟩⟩
                  rw [e]
                  exact ⟨_, _, by simp <;> omega, (HB.out.set 0 _).grew (Grew.refl _).drew, Or.inl rfl, HUG.out, (((Turns.refl _ _).set 0 _).below HGW.out HUG.out).drew⟩
                · go_ret
                  have hl0 : l ≠ [] := fun h3 => by
                    have h4 : l.length = 0 := by rw [h3]; rfl
                    omega
                  refine ⟨((Turns.refl _ _).set 0 _).grew (Grew.refl _).drew, Or.inr ⟨z, k + 1, HZ.out, rfl, ⟨some ⟨b, o + (k + 1), none⟩, _, by rw [List.length_drop], (HB.out.set 0 _).grew (Grew.refl _).drew, ?_, HUG.out, (((Turns.refl _ _).set 0 _).below HGW.out HUG.out).drew⟩⟩⟩
                  rw [bV_drop]
                  exact row_drop HR0.out
    · have hkm : ¬ k < m := by omega
      have HZ : Hid (scan l 0 0 = none) := Lib.hid (by rw [HS.out, List.drop_of_length_le (by omega)]; rfl)
      go_wp2_with (go_at_call 103; refine (fail_any g _ _ _ HB.out).mono ?_; rintro e w2 ⟨rfl, hb2, ht2⟩; have HB2 := Lib.hid hb2; have HT2 := Lib.hid ht2; clear hb2 ht2)
      go_ret
      exact ⟨HT2.out, Or.inl ⟨HZ.out, rfl, ⟨none, 0, rfl, HB2.out, Or.inl rfl, HUG.out, HT2.out.below HGW.out HUG.out⟩⟩⟩
end Go.Proofs.Ytcokhgomibimcaa
