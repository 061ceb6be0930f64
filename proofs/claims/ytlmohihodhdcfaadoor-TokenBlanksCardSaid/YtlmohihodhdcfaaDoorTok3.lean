/- Layer 7: numbers at the beginning of a text. Condition: a text of no more than a million bytes. -/
import Derived.Test.YtlmohihodhdcfaaDoorTok2
namespace Go.Proofs.YtlmohihodhdcfaaDoor
open Go.RowKit
attribute [local go_sem] more_cell more_frozen more_more more_setCell more_of_drew more_of_drewN lt_more le_more past_cell past_cell2 past_frozen past_frozen2 past_setCell past_setCell2 mid_cell mid_frozen mid_setCell
attribute [local go_sem ↓] Go.wp_at_zero Go.wp_at_succ

theorem digit_in {c : UInt8} (h : digitB c = true) : 48 ≤ c.toNat ∧ c.toNat ≤ 57 := by unfold digitB at h; simpa using h
theorem u8_48 {c : UInt8} (h : digitB c = true) : IntKind.u8.wrap ((c.toNat : Int) - 48) = ((c.toNat - 48 : Nat) : Int) := by
  obtain ⟨h1, h2⟩ := digit_in h
  generalize c.toNat = n at *
  obtain ⟨m, rfl⟩ : ∃ m, n = 48 + m := ⟨n - 48, by omega⟩
  have : m < 10 := by omega
  have e : ((48 + m : Nat) : Int) - 48 = (m : Int) := by omega
  rw [e, Nat.add_sub_cancel_left]
  rcases (by omega : m = 0 ∨ m = 1 ∨ m = 2 ∨ m = 3 ∨ m = 4 ∨ m = 5 ∨ m = 6 ∨ m = 7 ∨ m = 8 ∨ m = 9) with rfl | rfl | rfl | rfl | rfl | rfl | rfl | rfl | rfl | rfl <;> rfl
theorem i64_48 {c : UInt8} (h : digitB c = true) : IntKind.i64.wrap ((c.toNat : Int) - 48) = ((c.toNat - 48 : Nat) : Int) := by
  obtain ⟨h1, h2⟩ := digit_in h
  rw [IntWalk.i64_in _ (by omega)]
  omega
def quoN (d : Nat) : Nat := (9223372036854775807 - d) / 10
theorem quoN_lt {N d : Nat} (hd : d ≤ 9) : quoN d < N ↔ bigN < 10 * N + d := by unfold quoN bigN; omega
theorem subN {d : Nat} (hd : d ≤ 9) : IntKind.i64.wrap (9223372036854775807 - (d : Int)) = ((9223372036854775807 - d : Nat) : Int) := by
  rw [IntWalk.i64_in _ (by omega)]
  omega
theorem quoN_eq {d : Nat} (hd : d ≤ 9) : IntKind.i64.wrap (((9223372036854775807 - d : Nat) : Int) / 10) = (quoN d : Int) := by
  unfold quoN
  rw [IntWalk.i64_in _ (by omega)]
  omega
theorem mulN {N d : Nat} (h : ¬ bigN < 10 * N + d) {M : Nat} (hM : M = 10 * N + d) : IntKind.i64.wrap ((N : Int) * 10) = ((10 * N : Nat) : Int) ∧ IntKind.i64.wrap (10 * (N : Int)) = ((10 * N : Nat) : Int) ∧ IntKind.i64.wrap (10 * (N : Int) + (d : Int)) = (M : Int) := by
  subst hM
  unfold bigN at h
  refine ⟨?_, ?_, ?_⟩
  · rw [IntWalk.i64_in _ (by omega)]; omega
  · rw [IntWalk.i64_in _ (by omega)]; omega
  · rw [IntWalk.i64_in _ (by omega)]; omega
theorem nextL_at {l : List UInt8} {n : Nat} (h : n < l.length) : nextL l n = letterB l[n] := by
  unfold nextL
  rw [List.drop_eq_getElem_cons h]
theorem nextL_end {l : List UInt8} {n : Nat} (h : l.length ≤ n) : nextL l n = false := by
  unfold nextL
  rw [List.drop_of_length_le h]
def NumAt (l : List UInt8) (n : Nat) (o i : Value) (wr w2 : World) : Prop := ∃ j : Nat, j ≤ n ∧ i = .int .i64 j ∧ o = .int .i64 (numV (l.take j) : Nat) ∧ wr = w2 ∧ numV (l.take j) ≤ bigN
set_option maxHeartbeats 1000000 in
set_option maxRecDepth 100000 in
theorem number7_any (s : ByteArray) (hs : s.size ≤ 1000000) (w : World) : Gives Tryd.prog 32 #[.string s] w (trV (numT (bl s))) := by
  have HR := Lib.hid (run_digit s)
  have hle := runP_le digitB (bl s)
  have HD := Lib.hid (runP_all digitB (bl s))
  rw [bl_len] at hle
  unfold numT
  have HX := Lib.hid (ext_take s)
  generalize runP digitB (bl s) = n at *
  unfold Gives
  have hcase : (n = s.size ∧ nextL (bl s) n = false) ∨ (∃ h : n < s.size, nextL (bl s) n = letterB s[n]) := by
    rcases Nat.lt_or_ge n s.size with h | h
    · exact Or.inr ⟨h, (nextL_at (by rw [bl_len]; exact h)).trans (congrArg letterB (bl_get h _))⟩
    · exact Or.inl ⟨by omega, nextL_end (by rw [bl_len]; exact h)⟩
  by_cases hnx : nextL (bl s) n = true
  · rw [if_pos (Or.inl hnx)]
    obtain ⟨hlt, hn2⟩ : ∃ h : n < s.size, letterB s[n] = true := by
      rcases hcase with ⟨_, h⟩ | ⟨h, h'⟩
      · rw [h] at hnx; cases hnx
      · exact ⟨h, by rw [← h']; exact hnx⟩
    clear HX HD hcase hnx
    unfold trV errT
    have HL := Lib.hid (tletter_any (s[n]'hlt))
    rw [hn2] at HL
    clear hn2
    go_enter Tryd.func32, Tryd.ntmps32
    go_wp2_with (first | (go_at_call 21; (with_reducible refine (HR.out _).grows.mono ?_); rintro e w2 ⟨rfl, hg2⟩; have HG := Lib.hid (((Grew.refl w).alloc _).trans hg2); have HB : Hid (Blok w2 w.heap.size 33 #[.int .i64 0, .string ⟨#[]⟩, .int .i64 0, .int .i64 0]) := Lib.hid ((Blok.new _ _ _ _ rfl).grew hg2); obtain ⟨z0, z1, z2, z3, z4, z5, z6, z7, z8⟩ := tk_in HB.out; clear hg2) | (go_at_call 29; (with_reducible refine (HL.out _).mono ?_); rintro e w3 ⟨rfl, rfl⟩))
    have hb := tk_set HB.out (.int .i64 0) (.string ⟨#[]⟩) (.int .i64 0) (.int .i64 0)
    obtain ⟨_, r0, r1, r2, r3, _, _, _, _⟩ := tk_in hb
    exact bodyPost_ret (v := .tuple #[.agg #[.int .i64 0, .string ⟨#[]⟩, .int .i64 0, .int .i64 0], .int .i64 0, .int .i64 1]) (by simp [results, Tryd.results32, go_sem, r0, r1, r2, r3]) rfl ⟨rfl, grew_tk HG.out (Nat.le_refl _) _ _ _ _⟩
  · have hll : ∀ c : UInt8, True := fun _ => trivial
    have HNx : Hid (n = s.size ∨ ∃ h : n < s.size, letterB s[n] = false) := Lib.hid (by
      rcases hcase with ⟨h, _⟩ | ⟨h, h'⟩
      · exact Or.inl h
      · exact Or.inr ⟨h, by rw [← h']; simpa using hnx⟩)
    have HDs : Hid (∀ j (h : j < s.size), j < n → digitB s[j] = true) := Lib.hid fun j h hj => by
      have := HD.out j (by rw [bl_len]; exact h) hj
      rwa [bl_get h] at this
    have HV : Hid (∀ j (h : j < s.size), j < n → numV (((bl s).take n).take (j + 1)) = 10 * numV (((bl s).take n).take j) + (s[j].toNat - 48)) := Lib.hid fun j h hj => by
      have h1 : j < ((bl s).take n).length := by rw [List.length_take, bl_len]; omega
      have h2 : ((bl s).take n)[j] = s[j] := by rw [List.getElem_take]; exact bl_get h _
      rw [numV_take h1, h2]
    have HLe := Lib.hid (numV_le ((bl s).take n))
    have hnot : ¬ nextL (bl s) n = true := hnx
    have HXn := Lib.hid (HX.out n)
    have HEnd : Hid (((bl s).take n).take n = (bl s).take n) := Lib.hid (by rw [List.take_take, Nat.min_self])
    have HVal : Hid (∀ v, numV ((bl s).take n) = v → (if nextL (bl s) n = true ∨ bigN < numV ((bl s).take n) then errT 1 else ⟨3, (bl s).take n, (numV ((bl s).take n) : Nat), n, 0⟩ : Tr) = if bigN < v then errT 1 else ⟨3, (bl s).take n, (v : Nat), n, 0⟩) := Lib.hid fun v hv => by
      rw [hv]
      by_cases hb : bigN < v
      · rw [if_pos (Or.inr hb), if_pos hb]
      · rw [if_neg (by rintro (h | h); exact hnot h; exact hb h), if_neg hb]
    obtain ⟨v, hv⟩ : ∃ v, numV ((bl s).take n) = v := ⟨_, rfl⟩
    rw [HVal.out v hv]
    obtain ⟨fin, hfin⟩ : ∃ fin, (if bigN < v then errT 1 else ⟨3, (bl s).take n, (v : Nat), n, 0⟩ : Tr) = fin := ⟨_, rfl⟩
    rw [hfin]
    have HFin := Lib.hid hfin
    clear hfin
    have HV0 := Lib.hid hv
    clear HVal hnx hnot hcase HD hv HX
    generalize (bl s).take n = L at *
    have hlt3 : (∃ h : n < s.size, letterB s[n] = false) ∨ (decide ((n : Int) < (s.size : Int)) = false ∧ (s.size : Int) ≤ n) := by
      rcases HNx.out with h | h
      · exact Or.inr ⟨by simp; omega, by omega⟩
      · exact Or.inl h
    clear HNx
    rcases hlt3 with ⟨hlt, hlet⟩ | ⟨hlt, hlt'⟩
    · have HL := Lib.hid (tletter_any (s[n]'hlt))
      rw [hlet] at HL
      clear hlet
      go_enter Tryd.func32, Tryd.ntmps32
      go_wp2_with (first | (go_at_call 21; (with_reducible refine (HR.out _).grows.mono ?_); rintro e w2 ⟨rfl, hg2⟩; have HG := Lib.hid (((Grew.refl w).alloc _).trans hg2); have HB : Hid (Blok w2 w.heap.size 33 #[.int .i64 0, .string ⟨#[]⟩, .int .i64 0, .int .i64 0]) := Lib.hid ((Blok.new _ _ _ _ rfl).grew hg2); obtain ⟨z0, z1, z2, z3, z4, z5, z6, z7, z8⟩ := tk_in HB.out; clear hg2) | (go_at_call 29; (with_reducible refine (HL.out _).mono ?_); rintro e w3 ⟨rfl, hw3⟩; have hw3 := hw3.symm; subst hw3))
      go_loopw [6, 23] (fun o i wr => NumAt L n o i wr w2) (fun _ i _ => n - (intOf i).toNat)
      case atStart => exact ⟨0, Nat.zero_le _, rfl, rfl, rfl, Nat.zero_le _⟩
      case round =>
        obtain ⟨j, hj, rfl, rfl, rfl, hvb⟩ := hrel
        by_cases h : j < n
        · have hjs : j < s.size := by omega
          have hdg := HDs.out j hjs h
          have hd9 : s[j].toNat - 48 ≤ 9 := by have := digit_in hdg; omega
          have e1 := u8_48 hdg
          have e2 := subN hd9
          have e3 := quoN_eq hd9
          have HQ := Lib.hid (@quoN_lt (numV (L.take j)) _ hd9)
          have HS := Lib.hid (HV.out j hjs h)
          have HM := Lib.hid (fun (hb : ¬ bigN < 10 * numV (L.take j) + (s[j].toNat - 48)) => @mulN (numV (L.take j)) (s[j].toNat - 48) hb (numV (L.take (j + 1))) HS.out)
          have HL2 := Lib.hid (HLe.out (j + 1))
          clear HLe HV HDs hdg
          obtain ⟨M, hM⟩ : ∃ M, numV (L.take (j + 1)) = M := ⟨_, rfl⟩
          rw [hM] at HS HM HL2
          have HMt := Lib.hid hM
          clear hM
          have HVb := Lib.hid hvb
          clear hvb
          generalize numV (L.take j) = N at *
          generalize s[j].toNat - 48 = d at *
          generalize 9223372036854775807 - d = r0 at *
          generalize quoN d = q at *
          have e0 : IntKind.i64.wrap (d : Int) = d := IntWalk.i64_in _ (by omega)
          by_cases hb : q < N
          · have hbi : (q : Int) < (N : Int) := by omega
            have hbd : decide ((q : Int) < (N : Int)) = true := by simpa using hbi
            have hv : bigN < v := by have h1 := HQ.out.1 hb; have h2 := HS.out; have h3 := HL2.out; have h4 := HV0.out; rw [h4] at h3; omega
            obtain rfl : fin = errT 1 := by rw [← HFin.out, if_pos hv]
            clear HFin hv HM HS HL2 HQ hb
            go_wp2
            have hb := tk_set HB.out (.int .i64 0) (.string ⟨#[]⟩) (.int .i64 0) (.int .i64 0)
            obtain ⟨_, r0, r1, r2, r3, _, _, _, _⟩ := tk_in hb
            exact bodyPost_ret (v := .tuple #[.agg #[.int .i64 0, .string ⟨#[]⟩, .int .i64 0, .int .i64 0], .int .i64 0, .int .i64 1]) (by simp [results, Tryd.results32, go_sem, r0, r1, r2, r3]) rfl ⟨rfl, grew_tk HG.out (Nat.le_refl _) _ _ _ _⟩
          · have hbi : (N : Int) ≤ (q : Int) := by omega
            have hbd : decide ((q : Int) < (N : Int)) = false := by simpa using hbi
            obtain ⟨m1, _, m2⟩ := HM.out (fun h => hb (HQ.out.2 h))
            have HMb : Hid (numV (L.take (j + 1)) ≤ bigN) := Lib.hid (by rw [HMt.out, HS.out]; exact Nat.le_of_not_lt fun h => hb (HQ.out.2 h))
            clear HM HQ hb HS HL2
            go_wp2
            exact ⟨⟨j + 1, by omega, by go_num, by rw [HMt.out], rfl, HMb.out⟩, by simp only [intOf]; omega⟩
        · obtain rfl : j = n := by omega
          have HVv : numV (L.take j) = v := by rw [HEnd.out]; exact HV0.out
          have hnb : v ≤ bigN := by rw [← HVv]; exact hvb
          obtain rfl : fin = ⟨3, L, (v : Nat), j, 0⟩ := by rw [← HFin.out, if_neg (by omega)]
          clear HFin
          go_wp2
          have hb := tk_set HB.out (.int .i64 3) (.string (s.extract 0 j)) (.int .i64 v) (.int .i64 0)
          obtain ⟨_, r0, r1, r2, r3, _, _, _, _⟩ := tk_in hb
          exact bodyPost_ret (v := .tuple #[.agg #[.int .i64 3, .string (s.extract 0 j), .int .i64 v, .int .i64 0], .int .i64 j, .int .i64 0]) (by simp [results, Tryd.results32, go_sem, r0, r1, r2, r3]) rfl ⟨by rw [HXn.out]; rfl, grew_tk HG.out (Nat.le_refl _) _ _ _ _⟩
    · go_enter Tryd.func32, Tryd.ntmps32
      go_wp2_with (first | (go_at_call 21; (with_reducible refine (HR.out _).grows.mono ?_); rintro e w2 ⟨rfl, hg2⟩; have HG := Lib.hid (((Grew.refl w).alloc _).trans hg2); have HB : Hid (Blok w2 w.heap.size 33 #[.int .i64 0, .string ⟨#[]⟩, .int .i64 0, .int .i64 0]) := Lib.hid ((Blok.new _ _ _ _ rfl).grew hg2); obtain ⟨z0, z1, z2, z3, z4, z5, z6, z7, z8⟩ := tk_in HB.out; clear hg2))
      go_loopw [6, 23] (fun o i wr => NumAt L n o i wr w2) (fun _ i _ => n - (intOf i).toNat)
      case atStart => exact ⟨0, Nat.zero_le _, rfl, rfl, rfl, Nat.zero_le _⟩
      case round =>
        obtain ⟨j, hj, rfl, rfl, rfl, hvb⟩ := hrel
        by_cases h : j < n
        · have hjs : j < s.size := by omega
          have hdg := HDs.out j hjs h
          have hd9 : s[j].toNat - 48 ≤ 9 := by have := digit_in hdg; omega
          have e1 := u8_48 hdg
          have e2 := subN hd9
          have e3 := quoN_eq hd9
          have HQ := Lib.hid (@quoN_lt (numV (L.take j)) _ hd9)
          have HS := Lib.hid (HV.out j hjs h)
          have HM := Lib.hid (fun (hb : ¬ bigN < 10 * numV (L.take j) + (s[j].toNat - 48)) => @mulN (numV (L.take j)) (s[j].toNat - 48) hb (numV (L.take (j + 1))) HS.out)
          have HL2 := Lib.hid (HLe.out (j + 1))
          clear HLe HV HDs hdg
          obtain ⟨M, hM⟩ : ∃ M, numV (L.take (j + 1)) = M := ⟨_, rfl⟩
          rw [hM] at HS HM HL2
          have HMt := Lib.hid hM
          clear hM
          have HVb := Lib.hid hvb
          clear hvb
          generalize numV (L.take j) = N at *
          generalize s[j].toNat - 48 = d at *
          generalize 9223372036854775807 - d = r0 at *
          generalize quoN d = q at *
          have e0 : IntKind.i64.wrap (d : Int) = d := IntWalk.i64_in _ (by omega)
          by_cases hb : q < N
          · have hbi : (q : Int) < (N : Int) := by omega
            have hbd : decide ((q : Int) < (N : Int)) = true := by simpa using hbi
            have hv : bigN < v := by have h1 := HQ.out.1 hb; have h2 := HS.out; have h3 := HL2.out; have h4 := HV0.out; rw [h4] at h3; omega
            obtain rfl : fin = errT 1 := by rw [← HFin.out, if_pos hv]
            clear HFin hv HM HS HL2 HQ hb
            go_wp2
            have hb := tk_set HB.out (.int .i64 0) (.string ⟨#[]⟩) (.int .i64 0) (.int .i64 0)
            obtain ⟨_, r0, r1, r2, r3, _, _, _, _⟩ := tk_in hb
            exact bodyPost_ret (v := .tuple #[.agg #[.int .i64 0, .string ⟨#[]⟩, .int .i64 0, .int .i64 0], .int .i64 0, .int .i64 1]) (by simp [results, Tryd.results32, go_sem, r0, r1, r2, r3]) rfl ⟨rfl, grew_tk HG.out (Nat.le_refl _) _ _ _ _⟩
          · have hbi : (N : Int) ≤ (q : Int) := by omega
            have hbd : decide ((q : Int) < (N : Int)) = false := by simpa using hbi
            obtain ⟨m1, _, m2⟩ := HM.out (fun h => hb (HQ.out.2 h))
            have HMb : Hid (numV (L.take (j + 1)) ≤ bigN) := Lib.hid (by rw [HMt.out, HS.out]; exact Nat.le_of_not_lt fun h => hb (HQ.out.2 h))
            clear HM HQ hb HS HL2
            go_wp2
            exact ⟨⟨j + 1, by omega, by go_num, by rw [HMt.out], rfl, HMb.out⟩, by simp only [intOf]; omega⟩
        · obtain rfl : j = n := by omega
          have HVv : numV (L.take j) = v := by rw [HEnd.out]; exact HV0.out
          have hnb : v ≤ bigN := by rw [← HVv]; exact hvb
          obtain rfl : fin = ⟨3, L, (v : Nat), j, 0⟩ := by rw [← HFin.out, if_neg (by omega)]
          clear HFin
          go_wp2
          have hb := tk_set HB.out (.int .i64 3) (.string (s.extract 0 j)) (.int .i64 v) (.int .i64 0)
          obtain ⟨_, r0, r1, r2, r3, _, _, _, _⟩ := tk_in hb
          exact bodyPost_ret (v := .tuple #[.agg #[.int .i64 3, .string (s.extract 0 j), .int .i64 v, .int .i64 0], .int .i64 j, .int .i64 0]) (by simp [results, Tryd.results32, go_sem, r0, r1, r2, r3]) rfl ⟨by rw [HXn.out]; rfl, grew_tk HG.out (Nat.le_refl _) _ _ _ _⟩
end Go.Proofs.YtlmohihodhdcfaaDoor
