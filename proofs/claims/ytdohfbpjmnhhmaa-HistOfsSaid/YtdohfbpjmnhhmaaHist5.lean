/- Layer 27: the document's sort, in memory of its own. Condition: no more than a million numbers. -/
import Derived.Test.YtdohfbpjmnhhmaaHist3
import Derived.Test.YtdohfbpjmnhhmaaMix
namespace Go.Proofs.Ytdohfbpjmnhhmaa
open Go.RowKit
attribute [local go_sem] more_cell more_frozen more_more more_setCell more_of_drew more_of_drewN lt_more le_more past_cell past_cell2 past_frozen past_frozen2 past_setCell past_setCell2 mid_cell mid_frozen mid_setCell
attribute [local go_sem ↓] Go.wp_at_zero Go.wp_at_succ

/-- Numbers that come back in a row of one's own. -/
def IntsT (w : World) (l : List Int) (e : Ending) (w' : World) : Prop := ∃ A k, e = .returned (.slice A l.length k) ∧ l.length ≤ k ∧ Grew w w' ∧ TRow w.heap.size w' 3 A (iV l)
def SrtTAt (w : World) (l : List Int) (v i : Value) (wr : World) : Prop := ∃ (j : Nat) (A : Option Addr) (c : Nat), j ≤ l.length ∧ i = .int .i64 j ∧ v = .slice A j c ∧ j ≤ c ∧ Grew w wr ∧ TRow w.heap.size wr 3 A (iV (sortI (l.take j)))
def ScanTAt (w : World) (s : List Int) (x : Int) (k : Value) (wr : World) : Prop := ∃ j : Nat, j ≤ s.length ∧ k = .int .i64 j ∧ Grew w wr ∧ ∀ y ∈ s.drop j, x ≤ y
set_option maxHeartbeats 1000000 in
set_option maxRecDepth 100000 in
theorem rsortT_any (l : List Int) (hl : l.length ≤ 1000000) (A : Option Addr) (k : Nat) (w : World) (ra : Row w A (iV l)) : Calls Try.prog 31 #[.slice A l.length k] w (IntsT w (sortI l)) := by
  have RA := Lib.hid ra
  have HG0 : Hid (Grew w w) := Lib.hid (Grew.refl w)
  clear ra
  go_enter Try.func31, Try.ntmps31
  go_wp2
  go_loopw [3, 4] (fun v i wr => SrtTAt w l v i wr) (fun _ i _ => l.length - (intOf i).toNat)
  case atStart => exact ⟨0, none, 0, Nat.zero_le _, rfl, rfl, Nat.le_refl _, HG0.out, Or.inl (by simp [sortI_nil, iV])⟩
  case round =>
    obtain ⟨j, B, c, hj, rfl, rfl, hjc, hg, hr⟩ := hrel
    have HG := Lib.hid hg
    have HR := Lib.hid hr.plain
    have HRT0 := Lib.hid hr
    clear hg hr
    by_cases h : j < l.length
    · have hsl : (sortI (l.take j)).length = j := by rw [sortI_len, List.length_take]; omega
      have HSN := Lib.hid (fun k => sortI_snoc (l.take j) l[j] k)
      rw [← List.take_succ_eq_append_getElem h] at HSN
      have HPW := Lib.hid (sortI_pw (l.take j))
      have HK : Hid (∀ W A c, j + 1 ≤ c → Grew w W → TRow w.heap.size W 3 A (iV (sortI (l.take (j + 1)))) → SrtTAt w l (.slice A (j + 1) c) (.int .i64 ((j : Int) + 1)) W) := Lib.hid fun W A c hc hW hR => ⟨j + 1, A, c, by omega, by go_num, rfl, hc, hW, hR⟩
      obtain ⟨b2, o2, rfl⟩ := irow_some RA.out h
      have HRX : Hid (∀ W, Grew w W → b2 < W.heap.size ∧ W.cell? ⟨b2, o2 + j, none⟩ = some (.int .i64 l[j])) := Lib.hid fun W hW => irow_cell (RA.out.grew hW) h rfl
      have hj6 : j ≤ 1000000 := by omega
      clear HRT0
      generalize sortI (l.take j) = s at *
      generalize sortI (l.take (j + 1)) = s1 at *
      generalize l[j] = x at *
      obtain ⟨wo, hwo⟩ : ∃ wo : World, wo = wr := ⟨_, rfl⟩
      subst hwo
      go_upto_region 6 with fail
      go_loopw [5] (fun kv wx => ScanTAt wo s x kv wx) (fun kv _ => (intOf kv).toNat)
      case atStart => exact ⟨j, by omega, rfl, Grew.refl _, by simp [List.drop_of_length_le (Nat.le_of_eq hsl)]⟩
      case round =>
        obtain ⟨q, hq, rfl, hgx, hd⟩ := hrel
        have HD := Lib.hid hd
        have HGX := Lib.hid hgx
        clear hgx hd
        by_cases hgo : ∃ h : q - 1 < s.length, 0 < q ∧ x < s[q - 1]
        · obtain ⟨hq1, hq0, hlt⟩ := hgo
          obtain ⟨q, rfl⟩ : ∃ p, q = p + 1 := ⟨q - 1, by omega⟩
          rw [Nat.add_sub_cancel] at hq1
          have hlt' : x < s[q] := hlt
          obtain ⟨b, o, rfl, hb, hc⟩ := rowI_at (HR.out.grew HGX.out) hq1
          obtain ⟨hb2, hc2⟩ := HRX.out wr (HG.out.trans HGX.out)
          have HE : Hid (∀ y ∈ s.drop q, x ≤ y) := Lib.hid fun y hy => by
            rw [List.drop_eq_getElem_cons hq1] at hy
            rcases List.mem_cons.1 hy with hy | hy
            · rw [hy]; omega
            · exact HD.out y hy
          have hpos : (0 : Int) < (q : Int) + 1 := by omega
          have hpos2 : decide ((0 : Int) < (q : Int) + 1) = true := decide_eq_true hpos
          clear hlt
          generalize s[q] = y at *
          go_wp2
          go_quiet (fail)
          go_wp2
          exact ⟨⟨q, by omega, by go_num, HGX.out.drewN _, HE.out⟩, by simp only [intOf]; omega⟩
        · have HT : Hid (∀ y ∈ s.take q, y ≤ x) := Lib.hid fun y hy => by
            rcases Nat.eq_zero_or_pos q with e | e
            · subst e; simp at hy
            · have h1 : q - 1 < s.length := by omega
              have h2 : s[q - 1] ≤ x := by
                rcases Int.lt_or_le x s[q - 1] with h3 | h3
                · exact absurd ⟨h1, e, h3⟩ hgo
                · exact h3
              obtain ⟨i, hi, rfl⟩ := List.getElem_of_mem hy
              rw [List.length_take] at hi
              have h4 := sorted_le HPW.out (i := i) (j := q - 1) (by omega) h1
              rw [List.getElem_take]
              omega
          have HS1 := Lib.hid (HSN.out q HT.out HD.out)
          have HQJ : Hid (q ≤ 1000000 ∧ q ≤ j) := Lib.hid ⟨by omega, by omega⟩
          rcases Nat.eq_zero_or_pos q with e | e
          · subst e
            clear hgo HT HD
            go_wp2
            go_quiet (fail)
            have HGQ := Lib.hid ((HG.out.trans HGX.out).drewN nq)
            have HRQ : Hid (Row (wr.drewN nq) B (iV s)) := Lib.hid (HR.out.grew (HGX.out.drewN nq))
            generalize wr.drewN nq = wq at *
            clear HGX HG
            have hst : (iV (s.take 0)).length = 0 := by simp [iV]
            have hsd : (iV (s.drop 0)).length = j := by simp [iV, hsl]
            have HRT : Hid (∀ W, Grew wq W → Row W B (iV (s.take 0))) := Lib.hid fun W hW => row_takeI (HRQ.out.grew hW) _
            have HRD : Hid (∀ W, Grew wq W → Row W B (iV (s.drop 0))) := Lib.hid fun W hW => by rw [List.drop_zero]; exact HRQ.out.grew hW
            generalize s.take 0 = st at *
            generalize s.drop 0 = sd at *
            go_wp2_with (at_builtin; first | (refine wpList_app rfl (.tmp 31) (.tmp 34) 38 3 rfl w (.int .i64 0) 8 Try.underlying38 infoI rfl (by decide) _ 0 [] rfl (own_empty _ _ _ _ _ rfl HGQ.out.size) _ _ _ (iV st) rfl hst (HRT.out _ ((Grew.refl wq).alloc _)) (iV_one _) (by have := HQJ.out; omega) (HGQ.out.alloc _) ?_; intro A1 c1 w1 ho1 hr1 hg1 hgb1 hor1; rw [Nat.zero_add, List.nil_append] at ho1; rw [Nat.zero_add] at hor1; have HO1 := Lib.hid ho1; have HG1 := Lib.hid hg1; have HGQ1 : Hid (Grew wq w1) := Lib.hid (((Grew.refl wq).alloc _).grown hgb1 (by intro k hk; cases hk; exact Nat.le_refl _)); have HOW1 : Hid (∀ k, (Value.slice A1 0 c1).ownBlock = some k → wq.heap.size ≤ k) := Lib.hid (by rintro k hk; rcases hor1 with h | h <;> (rw [h] at hk; cases hk; simp)); clear hor1 ho1 hr1 hg1 hgb1; obtain ⟨y1, y2⟩ := HRX.out w1 HG1.out) | (refine wpList_app rfl (.tmp 36) (.tmp 41) 38 3 rfl w (.int .i64 0) 8 Try.underlying38 infoI rfl (by decide) _ _ _ rfl (own_alloc HO1.out _) _ 1 1 [.int .i64 x] rfl rfl (row_one _ _ _ _ rfl) (by simp [Value.oneCell']) (by have := HQJ.out; omega) (HG1.out.alloc _) ?_; intro A2 c2 w2 ho2 hr2 hg2 hgb2 _; have HO2 := Lib.hid ho2; have HG2 := Lib.hid hg2; have HGQ2 : Hid (Grew wq w2) := Lib.hid ((HGQ1.out.alloc _).grown hgb2 (HOW1.out)); clear ho2 hr2 hg2 hgb2) | (refine wpList_app rfl (.tmp 43) (.tmp 46) 38 3 rfl w (.int .i64 0) 8 Try.underlying38 infoI rfl (by decide) _ _ _ rfl HO2.out _ _ _ (iV sd) rfl hsd (HRD.out _ HGQ2.out) (iV_one _) (by have := HQJ.out; omega) HG2.out ?_; intro A3 c3 w3 ho3 hr3 hg3 _ _; rw [show 1 + j = j + 1 by have := HQJ.out; omega] at ho3 ⊢; have HF := Lib.hid (HK.out w3 A3 c3 (own_cap ho3) hg3 (by rw [← HS1.out]; have hT := TRow.own ho3; simpa [iV] using hT)); clear ho3 hr3 hg3))
            exact ⟨HF.out, by simp only [intOf]; omega⟩
          · obtain ⟨q, rfl⟩ : ∃ p, q = p + 1 := ⟨q - 1, by omega⟩
            have hq1 : q < s.length := by omega
            have hle : s[q] ≤ x := by
              rcases Int.lt_or_le x s[q] with h3 | h3
              · exact absurd ⟨hq1, e, h3⟩ hgo
              · exact h3
            obtain ⟨b, o, rfl, hb, hc⟩ := rowI_at (HR.out.grew HGX.out) hq1
            obtain ⟨hb2, hc2⟩ := HRX.out wr (HG.out.trans HGX.out)
            have hpos : (0 : Int) < (q : Int) + 1 := by omega
            have hpos2 : decide ((0 : Int) < (q : Int) + 1) = true := decide_eq_true hpos
            clear hgo HT HD
            generalize s[q] = y at *
            go_wp2
            go_quiet (fail)
            have HGQ := Lib.hid ((HG.out.trans HGX.out).drewN nq)
            have HRQ : Hid (Row (wr.drewN nq) (some ⟨b, o, none⟩) (iV s)) := Lib.hid (HR.out.grew (HGX.out.drewN nq))
            clear hb hc hb2 hc2 hpos hpos2
            generalize wr.drewN nq = wq at *
            clear HGX HG
            have hst : (iV (s.take (q + 1))).length = (q + 1) := by simp [iV]; omega
            have hsd : (iV (s.drop (q + 1))).length = j - (q + 1) := by simp [iV, hsl]
            have HRT : Hid (∀ W, Grew wq W → Row W (some ⟨b, o, none⟩ : Option Addr) (iV (s.take (q + 1)))) := Lib.hid fun W hW => row_takeI (HRQ.out.grew hW) _
            have HRD : Hid (∀ W, Grew wq W → Row W (if c = q + 1 then some ⟨b, o, none⟩ else some ⟨b, o + (q + 1), none⟩) (iV (s.drop (q + 1)))) := Lib.hid fun W hW => by
              split
              · exact Or.inl (by rw [List.drop_of_length_le (by omega)]; rfl)
              · exact row_dropI (HRQ.out.grew hW) _
            generalize s.take (q + 1) = st at *
            generalize s.drop (q + 1) = sd at *
            go_wp2_with (at_builtin; first | (refine wpList_app rfl (.tmp 31) (.tmp 34) 38 3 rfl w (.int .i64 0) 8 Try.underlying38 infoI rfl (by decide) _ 0 [] rfl (own_empty _ _ _ _ _ rfl HGQ.out.size) _ _ _ (iV st) rfl hst (HRT.out _ ((Grew.refl wq).alloc _)) (iV_one _) (by have := HQJ.out; omega) (HGQ.out.alloc _) ?_; intro A1 c1 w1 ho1 hr1 hg1 hgb1 hor1; rw [Nat.zero_add, List.nil_append] at ho1; rw [Nat.zero_add] at hor1; have HO1 := Lib.hid ho1; have HG1 := Lib.hid hg1; have HGQ1 : Hid (Grew wq w1) := Lib.hid (((Grew.refl wq).alloc _).grown hgb1 (by intro k hk; cases hk; exact Nat.le_refl _)); have HOW1 : Hid (∀ k, (Value.slice A1 (q + 1) c1).ownBlock = some k → wq.heap.size ≤ k) := Lib.hid (by rintro k hk; rcases hor1 with h | h <;> (rw [h] at hk; cases hk; simp)); clear hor1 ho1 hr1 hg1 hgb1; obtain ⟨y1, y2⟩ := HRX.out w1 HG1.out) | (refine wpList_app rfl (.tmp 36) (.tmp 41) 38 3 rfl w (.int .i64 0) 8 Try.underlying38 infoI rfl (by decide) _ _ _ rfl (own_alloc HO1.out _) _ 1 1 [.int .i64 x] rfl rfl (row_one _ _ _ _ rfl) (by simp [Value.oneCell']) (by have := HQJ.out; omega) (HG1.out.alloc _) ?_; intro A2 c2 w2 ho2 hr2 hg2 hgb2 _; have HO2 := Lib.hid ho2; have HG2 := Lib.hid hg2; have HGQ2 : Hid (Grew wq w2) := Lib.hid ((HGQ1.out.alloc _).grown hgb2 (HOW1.out)); clear ho2 hr2 hg2 hgb2) | (refine wpList_app rfl (.tmp 43) (.tmp 46) 38 3 rfl w (.int .i64 0) 8 Try.underlying38 infoI rfl (by decide) _ _ _ rfl HO2.out _ _ _ (iV sd) rfl hsd (HRD.out _ HGQ2.out) (iV_one _) (by have := HQJ.out; omega) HG2.out ?_; intro A3 c3 w3 ho3 hr3 hg3 _ _; rw [show q + 1 + 1 + (j - (q + 1)) = j + 1 by have := HQJ.out; omega] at ho3 ⊢; have HF := Lib.hid (HK.out w3 A3 c3 (own_cap ho3) hg3 (by rw [← HS1.out]; have hT := TRow.own ho3; simpa [iV] using hT)); clear ho3 hr3 hg3))
            exact ⟨HF.out, by simp only [intOf]; omega⟩
    · obtain rfl : j = l.length := by omega
      have HF : Hid (IntsT w (sortI l) (.returned (.slice B l.length c)) wr) := Lib.hid ⟨B, c, by rw [sortI_len], by rw [sortI_len]; exact hjc, HG.out, by have := HRT0.out; rw [List.take_length] at this; exact this⟩
      go_wp2
      go_ret
      exact HF.out
end Go.Proofs.Ytdohfbpjmnhhmaa
