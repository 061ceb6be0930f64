/- Layer 7: numbers and signs, by the document, too. Condition: a text of no more than a million bytes. -/
import Derived.Test.YtlmohihodhdcfaaDoorTok3
namespace Go.Proofs.YtlmohihodhdcfaaDoor
open Go.RowKit
attribute [local go_sem] more_cell more_frozen more_more more_setCell more_of_drew more_of_drewN lt_more le_more past_cell past_cell2 past_frozen past_frozen2 past_setCell past_setCell2 mid_cell mid_frozen mid_setCell
attribute [local go_sem ↓] Go.wp_at_zero Go.wp_at_succ

def RNumAt (l : List UInt8) (n : Nat) (o i : Value) (wr w2 : World) : Prop := ∃ j : Nat, j ≤ n ∧ i = .int .i64 j ∧ o = .int .i64 (numV (l.take j) : Nat) ∧ wr = w2 ∧ numV (l.take j) ≤ bigN
theorem num_cases (N d : Nat) (h9 : d ≤ 9) : (bigN < 10 * N + d ∧ decide (922337203685477580 < (N : Int)) = true) ∨ (bigN < 10 * N + d ∧ decide (922337203685477580 < (N : Int)) = false ∧ ((N : Int) == 922337203685477580) = true ∧ decide (7 < (d : Int)) = true) ∨ (¬ bigN < 10 * N + d ∧ decide (922337203685477580 < (N : Int)) = false ∧ ((N : Int) == 922337203685477580) = true ∧ decide (7 < (d : Int)) = false) ∨ (¬ bigN < 10 * N + d ∧ decide (922337203685477580 < (N : Int)) = false ∧ ((N : Int) == 922337203685477580) = false) := by
  unfold bigN
  rcases Nat.lt_or_ge 922337203685477580 N with h | h
  · exact Or.inl ⟨by omega, by simp; omega⟩
  · by_cases e : N = 922337203685477580
    · by_cases h7 : 7 < d
      · exact Or.inr (Or.inl ⟨by omega, by simp; omega, by simp; omega, by simp; omega⟩)
      · exact Or.inr (Or.inr (Or.inl ⟨by omega, by simp; omega, by simp; omega, by simp; omega⟩))
    · exact Or.inr (Or.inr (Or.inr ⟨by omega, by simp; omega, by rw [beq_eq_false_iff_ne]; omega⟩))
set_option maxHeartbeats 1000000 in
set_option maxRecDepth 100000 in
theorem rnumber7_any (s : ByteArray) (hs : s.size ≤ 1000000) (hd : ∀ j (h : j < s.size), digitB s[j] = true) (w : World) : Gives Tryd.prog 26 #[.string s] w (if bigN < numV (bl s) then .tuple #[.int .i64 0, .bool false] else .tuple #[.int .i64 (numV (bl s) : Nat), .bool true]) := by
  have HD := Lib.hid hd
  have HV : Hid (∀ j (h : j < s.size), numV ((bl s).take (j + 1)) = 10 * numV ((bl s).take j) + (s[j].toNat - 48)) := Lib.hid fun j h => by
    have h1 : j < (bl s).length := by rw [bl_len]; exact h
    have h2 := numV_take h1
    simp only [bl_get h] at h2
    exact h2
  have HLe := Lib.hid (numV_le (bl s))
  have HEnd : Hid ((bl s).take s.size = bl s) := Lib.hid (by rw [← bl_len, List.take_length])
  obtain ⟨v, hv⟩ : ∃ v, numV (bl s) = v := ⟨_, rfl⟩
  rw [hv] at HLe ⊢
  obtain ⟨fin, hfin⟩ : ∃ fin, (if bigN < v then .tuple #[.int .i64 0, .bool false] else .tuple #[.int .i64 (v : Nat), .bool true] : Value) = fin := ⟨_, rfl⟩
  rw [hfin]
  have HFin := Lib.hid hfin
  have HV0 := Lib.hid hv
  clear hfin hv hd
  generalize bl s = L at *
  unfold Gives
  go_enter Tryd.func26, Tryd.ntmps26
  go_wp2
  go_loopw [4, 5] (fun o i wr => RNumAt L s.size o i wr w) (fun _ i _ => s.size - (intOf i).toNat)
  case atStart => exact ⟨0, Nat.zero_le _, rfl, rfl, rfl, Nat.zero_le _⟩
  case round =>
    obtain ⟨j, hj, rfl, rfl, rfl, hvb⟩ := hrel
    by_cases h : j < s.size
    · have hdg := HD.out j h
      have hd9 : s[j].toNat - 48 ≤ 9 := by have := digit_in hdg; omega
      have e1 := i64_48 hdg
      have HS := Lib.hid (HV.out j h)
      have HM := Lib.hid (fun (hb : ¬ bigN < 10 * numV (L.take j) + (s[j].toNat - 48)) => @mulN (numV (L.take j)) (s[j].toNat - 48) hb (numV (L.take (j + 1))) HS.out)
      have HL2 := Lib.hid (HLe.out (j + 1))
      have HC := num_cases (numV (L.take j)) (s[j].toNat - 48) hd9
      have e0 : IntKind.i64.wrap (s[j].toNat : Int) = (s[j].toNat : Int) := IntWalk.i64_in _ (by have := digit_in hdg; omega)
      clear HLe HV hdg
      obtain ⟨M, hM⟩ : ∃ M, numV (L.take (j + 1)) = M := ⟨_, rfl⟩
      rw [hM] at HS HM HL2
      have HMt := Lib.hid hM
      clear hM
      have HVb := Lib.hid hvb
      clear hvb
      generalize numV (L.take j) = N at *
      generalize s[j].toNat - 48 = d at *
      rcases HC with ⟨hb, f1⟩ | ⟨hb, f1, f2, f3⟩ | ⟨hb, f1, f2, f3⟩ | ⟨hb, f1, f2⟩
      · obtain rfl : fin = .tuple #[.int .i64 0, .bool false] := by rw [← HFin.out, if_pos]; have h2 := HS.out; have h3 := HL2.out; omega
        clear HFin HM HS HL2 hb
        go_wp2
        go_ret2
        exact ⟨rfl, Grew.refl _⟩
      · obtain rfl : fin = .tuple #[.int .i64 0, .bool false] := by rw [← HFin.out, if_pos]; have h2 := HS.out; have h3 := HL2.out; omega
        clear HFin HM HS HL2 hb
        go_wp2
        go_ret2
        exact ⟨rfl, Grew.refl _⟩
      · obtain ⟨_, m1, m2⟩ := HM.out hb
        have HMb : Hid (numV (L.take (j + 1)) ≤ bigN) := Lib.hid (by rw [HMt.out, HS.out]; exact Nat.le_of_not_lt hb)
        clear HM HS HL2 hb
        go_wp2
        exact ⟨⟨j + 1, by omega, by go_num, by rw [HMt.out], rfl, HMb.out⟩, by simp only [intOf]; omega⟩
      · obtain ⟨_, m1, m2⟩ := HM.out hb
        have HMb : Hid (numV (L.take (j + 1)) ≤ bigN) := Lib.hid (by rw [HMt.out, HS.out]; exact Nat.le_of_not_lt hb)
        clear HM HS HL2 hb
        go_wp2
        exact ⟨⟨j + 1, by omega, by go_num, by rw [HMt.out], rfl, HMb.out⟩, by simp only [intOf]; omega⟩
    · obtain rfl : j = s.size := by omega
      have HVv : numV (L.take s.size) = v := by rw [HEnd.out]; exact HV0.out
      rw [HVv] at hvb ⊢
      obtain rfl : fin = .tuple #[.int .i64 (v : Nat), .bool true] := by rw [← HFin.out, if_neg (by omega)]
      clear HFin
      go_wp2
      go_ret2
      exact ⟨rfl, Grew.refl _⟩

/-- The longest sign at a place. -/
def signI (l : List UInt8) (a : Int) : List UInt8 := if 0 ≤ a ∧ a < l.length then signP (l.drop a.toNat) else []
theorem ext_one {s : ByteArray} {a : Nat} (h : a < s.size) : s.extract a (a + 1) = ⟨#[s[a]]⟩ := bl_ext (by
  rw [bl_extract, List.drop_eq_getElem_cons (by rw [bl_len]; exact h), bl_get h, Nat.add_sub_cancel_left]
  rfl)
theorem ext_two {s : ByteArray} {a : Nat} (h : a + 1 < s.size) : s.extract a (a + 2) = ⟨#[s[a], s[a + 1]]⟩ := bl_ext (by
  rw [bl_extract, List.drop_eq_getElem_cons (by rw [bl_len]; omega), List.drop_eq_getElem_cons (by rw [bl_len]; omega), bl_get (by omega), bl_get h, Nat.add_sub_cancel_left]
  rfl)
set_option maxHeartbeats 2000000 in
set_option maxRecDepth 100000 in
theorem sign7_in (s : ByteArray) (a : Nat) (ha : a < s.size) (hs : s.size ≤ 1000000) (w : World) : Calls Tryd.prog 14 #[.string s, .int .i64 a] w fun e w' => e = .returned (.string ⟨(signP ((bl s).drop a)).toArray⟩) ∧ w' = w := by
  have h1 := ext_one ha
  by_cases h2 : a + 1 < s.size
  · have h3 := ext_two h2
    have hd : (bl s).drop a = s[a] :: s[a + 1] :: (bl s).drop (a + 2) := by
      rw [List.drop_eq_getElem_cons (by rw [bl_len]; omega), List.drop_eq_getElem_cons (by rw [bl_len]; omega), bl_get ha, bl_get h2]
      rfl
    rw [hd]
    have ho : (bl s).drop (a + 2) = (bl s).drop (a + 2) := rfl
    generalize (bl s).drop (a + 2) = r at *
    clear hd ho
    obtain ⟨res, hres⟩ : ∃ res, signP (s[a] :: s[a + 1] :: r) = res := ⟨_, rfl⟩
    rw [hres]
    have HR := Lib.hid hres
    clear hres
    go_enter Tryd.func14, Tryd.ntmps14
    go_wp2
    all_goals
      go_ret
      refine ⟨congrArg (fun x => Ending.returned (Value.string x)) ?_, rfl⟩
      have e := HR.out
      clear HR
      subst e
      simp_all [signP, sign1]
  · have hd : (bl s).drop a = [s[a]] := by
      rw [List.drop_eq_getElem_cons (by rw [bl_len]; omega), List.drop_of_length_le (by rw [bl_len]; omega), bl_get ha]
      rfl
    rw [hd]
    clear hd
    have h3 : a + 1 = s.size := by omega
    have HA := Lib.hid h3
    have h4 : decide ((a : Int) + 2 ≤ (s.size : Int)) = false := by simp; omega
    clear h3 h2
    obtain ⟨res, hres⟩ : ∃ res, signP [s[a]] = res := ⟨_, rfl⟩
    rw [hres]
    have HR := Lib.hid hres
    clear hres
    go_enter Tryd.func14, Tryd.ntmps14
    go_wp2
    all_goals
      go_ret
      refine ⟨congrArg (fun x => Ending.returned (Value.string x)) ?_, rfl⟩
      have e := HR.out
      clear HR
      subst e
      simp_all [signP, sign1]
theorem sign7_any (s : ByteArray) (a : Int) (hs : s.size ≤ 1000000) (w : World) : Calls Tryd.prog 14 #[.string s, .int .i64 a] w fun e w' => e = .returned (.string ⟨(signI (bl s) a).toArray⟩) ∧ w' = w := by
  unfold signI
  rw [bl_len]
  by_cases h : 0 ≤ a ∧ a < s.size
  · rw [if_pos h]
    obtain ⟨n, rfl⟩ : ∃ n : Nat, a = n := ⟨a.toNat, by omega⟩
    exact sign7_in s n (by omega) hs w
  · rw [if_neg h]
    have hcase : a < 0 ∨ (0 ≤ a ∧ (s.size : Int) ≤ a) := by omega
    rcases hcase with h1 | ⟨h1, h2⟩
    all_goals
      clear h
      go_enter Tryd.func14, Tryd.ntmps14
      go_wp2
      go_ret
      exact ⟨rfl, rfl⟩
end Go.Proofs.YtlmohihodhdcfaaDoor
