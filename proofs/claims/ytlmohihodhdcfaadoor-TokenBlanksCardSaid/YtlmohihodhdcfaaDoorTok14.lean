/- Layer 7: the statement's walk: blanks ahead of a text, and behind it. Condition: the library's table of how long a search may be holds a number. -/
import Derived.Test.YtlmohihodhdcfaaDoorTok13
import Derived.Test.YtlmohihodhdcfaaDoorTokB
import Derived.Deep.CutBlock
namespace Go.Proofs.YtlmohihodhdcfaaDoor
open Go.RowKit
attribute [local go_sem] more_cell more_frozen more_more more_setCell more_of_drew more_of_drewN lt_more le_more past_cell past_cell2 past_frozen past_frozen2 past_setCell past_setCell2 mid_cell mid_frozen mid_setCell
attribute [local go_sem ↓] Go.wp_at_zero Go.wp_at_succ

theorem cq_take {s : ByteArray} {j : Nat} (h : j < s.size) : cq ((bl s).take (j + 1)) = cq ((bl s).take j) + if s[j].toNat = 39 then 1 else 0 := by
  have hl : j < (bl s).length := by rw [bl_len]; exact h
  rw [List.take_succ_eq_append_getElem hl, cq_append]
  simp only [bl_get h]
  rw [cq_cons]
  show _ + (0 + _) = _
  rw [Nat.zero_add]
  rfl
theorem cq_le (l : List UInt8) : cq l ≤ l.length := List.countP_le_length
def OddAt (s : ByteArray) (w : World) (n i : Value) (wr : World) : Prop := ∃ j : Nat, j ≤ s.size ∧ i = .int .i64 j ∧ n = .int .i64 (cq ((bl s).take j) : Nat) ∧ wr = w
set_option maxHeartbeats 1000000 in
set_option maxRecDepth 100000 in
theorem topen_any (s : ByteArray) (hs : s.size ≤ 1000000) (b : Bool) (hb : decide (cq (bl s) % 2 = 1) = b) (w : World) : Calls Tryd.prog 20 #[.string s] w fun e w' => e = .returned (.bool b) ∧ w' = w := by
  have HB := Lib.hid hb
  clear hb
  go_enter Tryd.func20, Tryd.ntmps20
  go_wp2
  go_loopw [3, 4] (fun n i wr => OddAt s w n i wr) (fun _ i _ => s.size - (intOf i).toNat)
  case atStart => exact ⟨0, Nat.zero_le _, rfl, rfl, rfl⟩
  case round =>
    obtain ⟨j, hj, rfl, rfl, hwr⟩ := hrel
    have hwr := hwr.symm
    subst hwr
    have hcl := cq_le ((bl s).take j)
    rw [List.length_take, bl_len] at hcl
    by_cases h : j < s.size
    · have HT := Lib.hid (cq_take h)
      have hc1 : cq ((bl s).take j) ≤ 1000000 := by omega
      clear hcl HB
      generalize hm : cq ((bl s).take (j + 1)) = m at *
      have HM := Lib.hid hm
      clear hm
      generalize cq ((bl s).take j) = c at *
      by_cases h39 : s[j].toNat = 39
      · have hq : ((s[j].toNat : Int) == 39) = true := by rw [h39]; rfl
        have hmm := HT.out
        rw [if_pos h39] at hmm
        clear HT h39
        subst hmm
        go_wp2
        exact ⟨⟨j + 1, by omega, by go_num, by rw [HM.out]; first | done | rfl | go_num, rfl⟩, by simp only [intOf]; omega⟩
      · have hq : ((s[j].toNat : Int) == 39) = false := by rw [beq_eq_false_iff_ne]; omega
        have hmm := HT.out
        rw [if_neg h39] at hmm
        clear HT h39
        subst hmm
        go_wp2
        exact ⟨⟨j + 1, by omega, by go_num, by rw [HM.out], rfl⟩, by simp only [intOf]; omega⟩
    · obtain rfl : j = s.size := by omega
      have e : (bl s).take s.size = bl s := List.take_of_length_le (by rw [bl_len]; exact Nat.le_refl _)
      rw [e] at hcl ⊢
      have hr : ((cq (bl s) : Int) % 2 == 1) = b := by
        rw [← HB.out, Bool.eq_iff_iff, beq_iff_eq, decide_eq_true_iff]
        omega
      clear HB e
      generalize cq (bl s) = c at *
      go_wp2
      go_ret
      exact ⟨rfl, rfl⟩
def AheadAt (s : ByteArray) (a : Nat) (w : World) (t i : Value) (wr : World) : Prop := ∃ (j : Nat) (x : ByteArray) (A : List UInt8), j ≤ a ∧ i = .int .i64 j ∧ t = .string x ∧ wr = w ∧ bl x = A ++ bl s ∧ A.length = j ∧ ∀ b ∈ A, blankB b = true
def BehindAt (y : List UInt8) (k : Nat) (w : World) (t i : Value) (wr : World) : Prop := ∃ (j : Nat) (x : ByteArray) (B : List UInt8), j ≤ k ∧ i = .int .i64 j ∧ t = .string x ∧ wr = w ∧ bl x = y ++ B ∧ B.length = j ∧ Nls B
theorem blank_piece (j : Nat) (hj : j < 4) : ∃ b : UInt8, (⟨#[32, 9, 10, 13, 32]⟩ : ByteArray).extract j (j + 1) = ⟨#[b]⟩ ∧ blankB b = true := by
  have h : j < (⟨#[32, 9, 10, 13, 32]⟩ : ByteArray).size := by show j < 5; omega
  refine ⟨_, ext_one h, ?_⟩
  rcases (by omega : j = 0 ∨ j = 1 ∨ j = 2 ∨ j = 3) with rfl | rfl | rfl | rfl <;> rfl
theorem allG_few (l : List UInt8) : ∀ (n a : Nat), (allG l n a).1.length ≤ n := fun n => by
  induction n with
  | zero => intro a; exact Nat.le_refl _
  | succ n ih =>
    intro a
    rw [allG]
    split
    · split
      · simp
      · split
        · have := ih (oneT l a).next
          simp
          omega
        · simp
    · simp
theorem oneT_at (l : List UInt8) (a : Int) : (oneT l a).at' ≤ l.length := by
  unfold oneT toT
  split
  · exact firstP_le (clampI_le _ _)
  · exact Nat.zero_le _
theorem allG_at (l : List UInt8) : ∀ (n a : Nat) (x : Tk), x ∈ (allG l n a).1 → 0 ≤ x.a ∧ x.a ≤ l.length := fun n => by
  induction n with
  | zero => intro a x hx; cases hx
  | succ n ih =>
    intro a x hx
    have h1 := oneT_at l a
    rw [allG] at hx
    split at hx
    · split at hx
      · rw [List.mem_singleton] at hx
        subst hx
        show (0 : Int) ≤ ((oneT l a).at' : Int) ∧ ((oneT l a).at' : Int) ≤ _
        omega
      · split at hx
        · rcases List.mem_cons.1 hx with h | h
          · subst h
            show (0 : Int) ≤ ((oneT l a).at' : Int) ∧ ((oneT l a).at' : Int) ≤ _
            omega
          · exact ih _ x h
        · cases hx
    · cases hx
def EachAt (n : Nat) (w : World) (i : Value) (wr : World) : Prop := ∃ j : Nat, j ≤ n ∧ i = .int .i64 j ∧ Grew w wr
set_option maxHeartbeats 4000000 in
set_option maxRecDepth 100000 in
theorem tokenBlanks_walk (s : ByteArray) (n k : Int) (hn : 0 ≤ n ∧ n < 256) (hk : 0 ≤ k ∧ k < 256) (w : World) (hw : MaxW w) : Gives Tryd.prog 6 #[.string s, .int .u8 n, .int .u8 k] w (.bool true) := by
  have HL : Hid (∀ W, Grew w W → Gives Tryd.prog 7 #[] W (.bool true)) := Lib.hid fun W hW => live07_any W (hw.grew hW)
  by_cases hb : 1000 < s.size
  · have hbd : decide ((1000 : Int) < (s.size : Int)) = true := by simp; omega
    have hbi : (1000 : Int) < (s.size : Int) := by omega
    unfold Gives
    clear hw hb hn hk
    go_enter Tryd.func6, Tryd.ntmps6
    go_wp2_with (go_at_call 7; (with_reducible refine (HL.out _ (Grew.refl _)).grows.mono ?_); rintro e w9 ⟨rfl, hg9⟩; have HG9 := Lib.hid hg9; clear hg9)
    go_ret
    exact ⟨rfl, HG9.out⟩
  · have hbd : decide ((1000 : Int) < (s.size : Int)) = false := by simp; omega
    have hbi : (s.size : Int) ≤ (1000 : Int) := by omega
    obtain ⟨n, rfl⟩ : ∃ m : Nat, n = m := ⟨n.toNat, by omega⟩
    obtain ⟨k, rfl⟩ : ∃ m : Nat, k = m := ⟨k.toNat, by omega⟩
    have hn1 : n < 256 := by omega
    have hk1 : k < 256 := by omega
    obtain ⟨a, ha⟩ : ∃ a, n % 5 = a := ⟨_, rfl⟩
    obtain ⟨c, hc⟩ : ∃ c, k % 4 = c := ⟨_, rfl⟩
    have ha4 : a ≤ 4 := by omega
    have hc4 : c ≤ 3 := by omega
    have e1 : ((n : Int) % 5) = (a : Int) := by omega
    have e2 : ((k : Int) % 4) = (c : Int) := by omega
    clear ha hc hb hn hk
    unfold Gives
    go_enter Tryd.func6, Tryd.ntmps6
    go_upto_block 0 with fail
    rw [e1]
    clear e1
    go_wp2_with fail
    go_loopw [8, 9] (fun t i wr => AheadAt s a w t i wr) (fun _ i _ => a - (intOf i).toNat)
    case atStart => exact ⟨0, s, [], Nat.zero_le _, rfl, rfl, rfl, rfl, rfl, fun b hb => by cases hb⟩
    case round =>
      obtain ⟨j, x, A, hj, rfl, rfl, hwr, hx, hAl, hA⟩ := hrel
      have hwr := hwr.symm
      subst hwr
      have HX := Lib.hid hx
      have HAl := Lib.hid hAl
      have HA := Lib.hid hA
      have hxs : x.size ≤ 1004 := by
        have := congrArg List.length hx
        rw [bl_len, List.length_append, bl_len, hAl] at this
        omega
      clear hx hAl hA
      by_cases h : j < a
      · obtain ⟨b, hp, hbb⟩ := blank_piece j (by omega)
        have HN : Hid (bl (⟨#[b]⟩ ++ x) = (b :: A) ++ bl s) := Lib.hid (by rw [bl_append, HX.out]; rfl)
        have HAn : Hid (∀ q ∈ b :: A, blankB q = true) := Lib.hid fun q hq => by
          rcases List.mem_cons.1 hq with h | h
          · rw [h]; exact hbb
          · exact HA.out q h
        have h1 : (⟨#[b]⟩ : ByteArray).size = 1 := rfl
        have h5 : (⟨#[32, 9, 10, 13, 32]⟩ : ByteArray).size = 5 := rfl
        have hj3 : j < 4 := by omega
        clear HX HA hbb
        go_wp2
        exact ⟨⟨j + 1, _, b :: A, by omega, by go_num, rfl, rfl, HN.out, by simp [HAl.out], HAn.out⟩, by simp only [intOf]; omega⟩
      · obtain rfl : j = a := by omega
        go_upto_block 2 with fail
        go_wp2_with fail
        obtain ⟨y, hy⟩ : ∃ y, A ++ bl s = y := ⟨_, rfl⟩
        go_loopw [8, 10] (fun t i wr => BehindAt (A ++ bl s) c w t i wr) (fun _ i _ => c - (intOf i).toNat)
        case atStart => exact ⟨0, x, [], Nat.zero_le _, rfl, rfl, rfl, by rw [List.append_nil]; exact HX.out, rfl, fun b hb => by cases hb⟩
        case round =>
          clear hxs HX
          obtain ⟨q, z, B, hq, rfl, rfl, hwr, hz, hBl, hB⟩ := hrel
          have hwr := hwr.symm
          subst hwr
          have HZ := Lib.hid hz
          have HBl := Lib.hid hBl
          have HB := Lib.hid hB
          have hzs : z.size ≤ 1007 := by
            have := congrArg List.length hz
            rw [bl_len, List.length_append, List.length_append, bl_len, hBl, HAl.out] at this
            omega
          clear hz hBl hB hy
          by_cases h2 : q < c
          · have HN : Hid (bl (z ++ ⟨#[10]⟩) = A ++ bl s ++ (B ++ [10])) := Lib.hid (by rw [bl_append, HZ.out]; simp [bl])
            have HBn : Hid (Nls (B ++ [10])) := Lib.hid fun b hb => by
              rcases List.mem_append.1 hb with h | h
              · exact HB.out b h
              · rw [List.mem_singleton.1 h]; rfl
            have h1 : (⟨#[10]⟩ : ByteArray).size = 1 := rfl
            have hqc : (q : Int) < (c : Int) := by omega
            have hqd : decide ((q : Int) < (c : Int)) = true := by simp; omega
            clear HZ HB
            go_wp2
            exact ⟨⟨q + 1, _, B ++ [10], by omega, by go_num, rfl, rfl, HN.out, by simp [HBl.out], HBn.out⟩, by simp only [intOf]; omega⟩
          · obtain rfl : q = c := by omega
            have hqc : (q : Int) ≤ (q : Int) := Int.le_refl _
            have hqd : decide ((q : Int) < (q : Int)) = false := by simp
            clear h2 h
            have H1 := Lib.hid (all7_any s (by omega))
            have H2 := Lib.hid (all7_any z (by omega))
            obtain ⟨b, hb⟩ : ∃ b, decide (cq (bl s) % 2 = 1) = b := ⟨_, rfl⟩
            have HO := Lib.hid (topen_any s (by omega) b hb)
            have HSame : Hid (b = false → Alike A.length (allP (bl s)) (allP (bl z))) := Lib.hid fun e => by
              rw [HZ.out]
              refine allP_more HA.out HB.out ?_
              rw [e, decide_eq_false_iff_not] at hb
              omega
            have hle : (allP (bl s)).1.length ≤ 1000000 := Nat.le_trans (allG_few (bl s) 1000 0) (by decide)
            have HAt : Hid (∀ x ∈ (allP (bl s)).1, 0 ≤ x.a ∧ x.a ≤ 1000) := Lib.hid fun x hx => by
              have := allG_at (bl s) 1000 0 x hx
              rw [bl_len] at this
              omega
            have HMx : Hid (∀ W, Grew w W → MaxW W) := Lib.hid fun W hW => hw.grew hW
            have HAl2 := HAl
            clear hb HZ HB HA HBl HAl hw
            generalize allP (bl s) = r at *
            generalize allP (bl z) = r' at *
            obtain ⟨l, er⟩ := r
            obtain ⟨l', er'⟩ := r'
            simp only at *
            go_upto_region 15 with (first
              | (go_at_call_of 8 (Value.string s); (with_reducible refine (H1.out _ (HMx.out _ (Grew.refl _))).mono ?_); rintro e w1 ⟨P, kp, rfl, hg1, hr1⟩; have HG1 := Lib.hid hg1; have HR1 := Lib.hid hr1; clear hg1 hr1)
              | (go_at_call_of 8 (Value.string z); (with_reducible refine (H2.out _ (HMx.out _ HG1.out)).mono ?_); rintro e w2 ⟨P', kp', rfl, hg2, hr2⟩; have HG2 := Lib.hid (HG1.out.trans hg2); have HR2 := Lib.hid hr2; have HR3 := Lib.hid (HR1.out.grew hg2); clear hg2 hr2))
            clear H1 H2 HMx
            cases b
            · have HSm := Lib.hid (HSame.out rfl)
              clear HSame
              have herr : er' = er := HSm.out.err
              have hlen : l'.length = l.length := HSm.out.len
              subst herr
              rw [hlen]
              obtain ⟨N, hN⟩ : ∃ N, l.length = N := ⟨_, rfl⟩
              have HLn := Lib.hid hN
              have HLn' : Hid (l'.length = N) := Lib.hid (hlen.trans hN)
              rw [hN] at hle ⊢
              clear hN hlen
              have fe : (er' != er') = false := by simp
              have fl : ((N : Int) != (N : Int)) = false := by simp
              go_upto_block 4 with (go_at_call 20; (with_reducible refine (HO.out _).mono ?_); rintro e w9 ⟨rfl, hw9⟩; have hw9 := hw9.symm; subst hw9)
              go_wp2_with fail
              go_loopw [15] (fun i wr => EachAt N w2 i wr) (fun i _ => N - (intOf i).toNat)
              case atStart => exact ⟨0, Nat.zero_le _, rfl, Grew.refl _⟩
              case round =>
                obtain ⟨i, hi, rfl, hg⟩ := hrel
                have HG := Lib.hid hg
                clear hg
                by_cases h : i < N
                · have hl : i < l.length := by rw [HLn.out]; exact h
                  have hl' : i < l'.length := by rw [HLn'.out]; exact h
                  obtain ⟨b1, o1, rfl, hb1, c0, c1, c2, c3⟩ := tks_at (HR3.out.grew HG.out) hl
                  obtain ⟨b2, o2, rfl, hb2, d0, d1, d2, d3⟩ := tks_at (HR2.out.grew HG.out) hl'
                  have hs := HSm.out.each i hl hl'
                  have hxa := HAt.out _ (List.getElem_mem hl)
                  have hAj := HAl2.out
                  generalize l[i] = x at *
                  generalize l'[i] = y at *
                  clear hl hl'
                  obtain ⟨v, hv⟩ : ∃ v, IntKind.i64.wrap (x.a + (j : Int)) = v := ⟨_, rfl⟩
                  by_cases hk0 : x.k = 0
                  · have f1 : (x.k != 0) = false := by rw [hk0]; rfl
                    clear hs hk0 hxa hAj
                    generalize (⟨y.t.toArray⟩ : ByteArray) = yt at *
                    generalize (⟨x.t.toArray⟩ : ByteArray) = xt at *
                    go_upto_region 23 with fail
                    refine wp_region_more (by kernel_rfl) (by kernel_rfl) ?_
                    repeat (go_big_quiet_step ((fail)))
                    refine wpQuiet_nil ?_
                    rintro _ ⟨z, rfl⟩
                    go_wp2
                    exact ⟨⟨i + 1, by omega, by go_num, HG.out.more z⟩, by simp only [intOf]; omega⟩
                  · obtain ⟨hk, ht, hii, haa⟩ := hs.resolve_left hk0
                    have hva : y.a = v := by
                      rw [haa, ← hv, hAj, IntWalk.i64_in _ (by omega)]
                    have f1 : (x.k != 0) = true := by simpa using hk0
                    obtain ⟨yk, yt, yi, ya⟩ := y
                    simp only at hk ht hii hva d0 d1 d2 d3
                    rw [hk] at d0
                    rw [ht] at d1
                    rw [hii] at d2
                    rw [hva] at d3
                    clear hs hk0 hxa hAj hk ht hii haa hva
                    obtain ⟨xt, hxt⟩ : ∃ xt, (⟨x.t.toArray⟩ : ByteArray) = xt := ⟨_, rfl⟩
                    rw [hxt] at d1 c1
                    clear hxt
                    have f2 : (v != v) = false := by simp
                    have f3 : (xt.toList == xt.toList) = true := by simp
                    have f4 : (x.k != x.k) = false := by simp
                    have f5 : (x.i != x.i) = false := by simp
                    go_upto_region 23 with fail
                    refine wp_region_more (by kernel_rfl) (by kernel_rfl) ?_
                    repeat (go_big_quiet_step ((fail)))
                    refine wpQuiet_nil ?_
                    rintro _ ⟨z, rfl⟩
                    go_wp2
                    exact ⟨⟨i + 1, by omega, by go_num, HG.out.more z⟩, by simp only [intOf]; omega⟩
                · obtain rfl : i = N := by omega
                  go_wp2_with (go_at_call 7; (with_reducible refine (HL.out _ (HG2.out.trans HG.out)).grows.mono ?_); rintro e w4 ⟨rfl, hg4⟩; have HG4 := Lib.hid ((HG2.out.trans HG.out).trans hg4); clear hg4)
                  go_ret
                  exact ⟨rfl, HG4.out⟩
            · clear HSame
              go_wp2_with (first
                | (go_at_call 20; (with_reducible refine (HO.out _).mono ?_); rintro e w9 ⟨rfl, hw9⟩; have hw9 := hw9.symm; subst hw9)
                | (go_at_call 7; (with_reducible refine (HL.out _ HG2.out).grows.mono ?_); rintro e w4 ⟨rfl, hg4⟩; have HG4 := Lib.hid (HG2.out.trans hg4); clear hg4))
              go_ret
              exact ⟨rfl, HG4.out⟩
end Go.Proofs.YtlmohihodhdcfaaDoor
