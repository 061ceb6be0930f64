/- Layer 21: is a number in a list, by the document. Condition: no more than a million numbers. -/
import Derived.Test.YtbglmcebkpkccaaGreatDoorIter
import Derived.Test.YtbglmcebkpkccaaGreatDoorSame
import Derived.Test.YtbglmcebkpkccaaGreatDoorHistMath
import Derived.Test.YtbglmcebkpkccaaGreatDoorMix

/- Layer 27: numbers sorted by the library, and how many marks are below a number. Condition: no more than a million of them. -/
namespace Go.Proofs.YtbglmcebkpkccaaGreatDoor
open Go.RowKit
attribute [local go_sem] more_cell more_frozen more_more more_setCell more_of_drew more_of_drewN lt_more le_more past_cell past_cell2 past_frozen past_frozen2 past_setCell past_setCell2 mid_cell mid_frozen mid_setCell
attribute [local go_sem ↓] Go.wp_at_zero Go.wp_at_succ

/-- Numbers that come back in a row. -/
def IntsF (w : World) (l : List Int) (e : Ending) (w' : World) : Prop := ∃ A k, e = .returned (.slice A l.length k) ∧ Grew w w' ∧ Row w' A (iV l)
theorem rowI_at {w : World} {A : Option Addr} {l : List Int} (h : Row w A (iV l)) {j : Nat} (hj : j < l.length) : ∃ b o, A = some ⟨b, o, none⟩ ∧ b < w.heap.size ∧ w.cell? ⟨b, o + j, none⟩ = some (.int .i64 l[j]) := by
  obtain ⟨b, o, rfl⟩ := irow_some h hj
  obtain ⟨h1, h2⟩ := irow_cell h hj rfl
  exact ⟨b, o, rfl, h1, h2⟩
theorem values_any (A : Option Addr) (n k : Nat) (w : World) : Calls Tryz.prog 60 #[.slice A n k] w fun e w' => e = .returned (.func (.func 98) #[] #[.pointer (some ⟨w.heap.size, 0, none⟩)]) ∧ w' = w.alloc (.cells #[.slice A n k] 31) := by
  go_enter Tryz.func60, Tryz.ntmps60
  go_wp2
  go_ret
  exact ⟨rfl, rfl⟩
theorem sorted_any (Bs : Nat) (A : Option Addr) (k : Nat) (l : List Int) (hz : l.length ≤ 1000000) (w : World) (hr : Row w A (iV l)) (hB : Bs < w.heap.size) (hBs : w.cell? ⟨Bs, 0, none⟩ = some (.slice A l.length k)) :
    Calls Tryz.prog 59 #[.func (.func 98) #[] #[.pointer (some ⟨Bs, 0, none⟩)]] w (IntsF w (sortI l)) := by
  have HC := Lib.hid (collect_any Bs A k l hz w hr hB hBs)
  clear hr hBs hB
  go_enter Tryz.func59, Tryz.ntmps59
  go_wp2_with fail
  refine HC.out.mono ?_
  rintro e w2 ⟨v, rfl, hrow, hb⟩
  have hl : (sortI l).length = l.length := sortI_len l
  rcases hrow.2 with ⟨rfl, h0⟩ | ⟨g, cap, cur, rfl, hbase, hgb, r1, r2, r3, r4⟩
  · have h00 : sortI l = [] := List.eq_nil_of_length_eq_zero (by omega)
    clear HC hrow
    go_wp2_with (go_at_call 51; refine (Tryz.slices_Sort_int_none none 0 w2).mono ?_; rintro e w' ⟨rfl, rfl⟩)
    go_ret
    rw [h00]
    exact ⟨none, 0, rfl, Grew.of_below hb, Or.inl rfl⟩
  · have hH : Go.Sort.Holds (Value.int .i64) w2 g 0 l.toArray := holds_of_blockI hgb (by simpa [iV] using r4)
    have hgl : g < w2.heap.size := (Array.getElem?_eq_some_iff.1 hgb).1
    have HS := Lib.hid (Tryz.slices_Sort_int g 0 cap l w2 hH hgl (by omega))
    have HO : Hid (∀ n os, (Go.Sort.grow (Go.Sort.putRow (Value.int .i64) (Go.Sort.ahead w2 n) g 0 (sortI l).toArray) os).ownsRow w.heap.size 3 1 (.slice (some ⟨g, 0, none⟩) l.length cap) l.length (iV (sortI l))) := Lib.hid fun n os => ownsRow_sortedI (ts := sortI l) hl hbase hgb r1 r2 r3
    have HG : Hid (∀ n os, Grew w (Go.Sort.grow (Go.Sort.putRow (Value.int .i64) (Go.Sort.ahead w2 n) g 0 (sortI l).toArray) os)) := Lib.hid fun n os => Grew.of_below (hb.grown (grownBy_sortedI _) hb.size (fun j hj => by cases hj; exact hbase))
    clear HC hrow hH hgl hbase hgb r1 r2 r3 r4 hb
    go_wp2_with (go_at_call 51; refine HS.out.mono ?_; rintro e w' ⟨rfl, n, os, rfl⟩)
    go_ret
    refine ⟨some ⟨g, 0, none⟩, cap, by rw [hl]; rfl, HG.out _ _, ?_⟩
    have h := HO.out n os
    rw [← hl] at h
    exact own_rowI h
def BelAt (w : World) (l : List Int) (n : Int) (c i : Value) (wr : World) : Prop := ∃ j : Nat, j ≤ l.length ∧ i = .int .i64 j ∧ c = .int .i64 (belowN (l.take j) n) ∧ Grew w wr
theorem below_any (l : List Int) (hl : l.length ≤ 1000000) (A : Option Addr) (k : Nat) (n : Int) (w : World) (ra : Row w A (iV l)) : Gives Tryz.prog 148 #[.slice A l.length k, .int .i64 n] w (.int .i64 (belowN l n)) := by
  have RA := Lib.hid ra
  have HG0 : Hid (Grew w w) := Lib.hid (Grew.refl w)
  clear ra
  unfold Gives
  go_enter Tryz.func148, Tryz.ntmps148
  go_wp2
  go_loopw [5, 10] (fun c i wr => BelAt w l n c i wr) (fun _ i _ => l.length - (intOf i).toNat)
  case atStart => exact ⟨0, Nat.zero_le _, rfl, by simp [belowN], HG0.out⟩
  case round =>
    obtain ⟨j, hj, rfl, rfl, hg⟩ := hrel
    have HG := Lib.hid hg
    clear hg
    by_cases h : j < l.length
    · obtain ⟨b, o, rfl, hb, hc⟩ := rowI_at (RA.out.grew HG.out) h
      have HS := Lib.hid (belowN_succ h n)
      have hcl : belowN (l.take j) n ≤ 1000000 := by
        have h1 := belowN_le (l.take j) n
        rw [List.length_take] at h1
        omega
      by_cases hx : l[j] < n
      · have HK : Hid (BelAt w l n (.int .i64 ((belowN (l.take j) n : Int) + 1)) (.int .i64 ((j : Int) + 1)) wr) := Lib.hid ⟨j + 1, by omega, by go_num, by rw [HS.out, if_pos hx]; go_num, HG.out⟩
        clear HS
        generalize belowN (l.take j) n = c at *
        generalize l[j] = x at *
        go_wp2
        exact ⟨HK.out, by simp only [intOf]; omega⟩
      · have HK : Hid (BelAt w l n (.int .i64 (belowN (l.take j) n : Int)) (.int .i64 ((j : Int) + 1)) wr) := Lib.hid ⟨j + 1, by omega, by go_num, by rw [HS.out, if_neg hx]; rfl, HG.out⟩
        have hx' : n ≤ l[j] := by omega
        clear HS hx
        generalize belowN (l.take j) n = c at *
        generalize l[j] = x at *
        go_wp2
        exact ⟨HK.out, by simp only [intOf]; omega⟩
    · obtain rfl : j = l.length := by omega
      rw [List.take_length]
      go_wp2
      go_ret
      exact ⟨rfl, HG.out⟩
end Go.Proofs.YtbglmcebkpkccaaGreatDoor

/- Layer 27: the document's sort. Condition: no more than a million numbers. -/
namespace Go.Proofs.YtbglmcebkpkccaaGreatDoor
open Go.RowKit
attribute [local go_sem] more_cell more_frozen more_more more_setCell more_of_drew more_of_drewN lt_more le_more past_cell past_cell2 past_frozen past_frozen2 past_setCell past_setCell2 mid_cell mid_frozen mid_setCell
attribute [local go_sem ↓] Go.wp_at_zero Go.wp_at_succ

theorem row_takeI {w : World} {A : Option Addr} {l : List Int} (h : Row w A (iV l)) (q : Nat) : Row w A (iV (l.take q)) := by
  rcases h with h | ⟨b, o, hA, hb, hc⟩
  · have : l = [] := by simpa [iV] using h
    subst this
    exact Or.inl (by simp [iV])
  · refine Or.inr ⟨b, o, hA, hb, fun j u hu => hc j u ?_⟩
    simp only [iV, List.map_take] at hu ⊢
    rw [List.getElem?_take] at hu
    split at hu
    · exact hu
    · cases hu
theorem row_dropI {w : World} {A : Option Addr} {l : List Int} (h : Row w A (iV l)) (q : Nat) : Row w (A.map (fun a => a.add q)) (iV (l.drop q)) := by
  rcases h with h | ⟨b, o, hA, hb, hc⟩
  · have : l = [] := by simpa [iV] using h
    subst this
    exact Or.inl (by simp [iV])
  · subst hA
    refine Or.inr ⟨b, o + q, by simp [add_plain], hb, fun j u hu => ?_⟩
    simp only [iV, List.map_drop, List.getElem?_drop] at hu
    have := hc (q + j) u hu
    rw [Nat.add_assoc]
    exact this
theorem own_cap {w : World} {base n c : Nat} {e : TypeId} {A : Option Addr} {xs : List Value} (h : w.ownsRow base e 1 (.slice A n c) n xs) : n ≤ c := by
  rcases h.2 with ⟨h, h0⟩ | ⟨g, cap, cur, hv, _, _, h1, _⟩
  · omega
  · cases hv; exact h1
end Go.Proofs.YtbglmcebkpkccaaGreatDoor

/- Layer 27: the document's sort, in memory of its own. Condition: no more than a million numbers. -/
namespace Go.Proofs.YtbglmcebkpkccaaGreatDoor
open Go.RowKit
attribute [local go_sem] more_cell more_frozen more_more more_setCell more_of_drew more_of_drewN lt_more le_more past_cell past_cell2 past_frozen past_frozen2 past_setCell past_setCell2 mid_cell mid_frozen mid_setCell
attribute [local go_sem ↓] Go.wp_at_zero Go.wp_at_succ

/-- Numbers that come back in a row of one's own. -/
def IntsT (w : World) (l : List Int) (e : Ending) (w' : World) : Prop := ∃ A k, e = .returned (.slice A l.length k) ∧ l.length ≤ k ∧ Grew w w' ∧ TRow w.heap.size w' 3 A (iV l)
def SrtTAt (w : World) (l : List Int) (v i : Value) (wr : World) : Prop := ∃ (j : Nat) (A : Option Addr) (c : Nat), j ≤ l.length ∧ i = .int .i64 j ∧ v = .slice A j c ∧ j ≤ c ∧ Grew w wr ∧ TRow w.heap.size wr 3 A (iV (sortI (l.take j)))
def ScanTAt (w : World) (s : List Int) (x : Int) (k : Value) (wr : World) : Prop := ∃ j : Nat, j ≤ s.length ∧ k = .int .i64 j ∧ Grew w wr ∧ ∀ y ∈ s.drop j, x ≤ y
set_option maxHeartbeats 1000000 in
set_option maxRecDepth 100000 in
theorem rsortT_any (l : List Int) (hl : l.length ≤ 1000000) (A : Option Addr) (k : Nat) (w : World) (ra : Row w A (iV l)) : Calls Tryz.prog 110 #[.slice A l.length k] w (IntsT w (sortI l)) := by
  have RA := Lib.hid ra
  have HG0 : Hid (Grew w w) := Lib.hid (Grew.refl w)
  clear ra
  go_enter Tryz.func110, Tryz.ntmps110
  go_wp2
  go_loopw [3, 4] (fun v i wr => SrtTAt w l v i wr) (fun _ i _ => l.length - (intOf i).toNat)
  case atStart => exact ⟨0, none, 0, Nat.zero_le _, rfl, rfl, Nat.le_refl _, HG0.out, Or.inl (by simp [sortI_nil, iV])⟩
  case round =>
    obtain ⟨j, B, c, hj, rfl, rfl, hjc, hg, hr⟩ := hrel
    have HG := Lib.hid hg
    have HR := Lib.hid hr.plain
    have HRT0 := Lib.hid hr
    clear hg hr
    by_cases h : j < l.length
    · have hsl : (sortI (l.take j)).length = j := by rw [sortI_len, List.length_take]; omega
      have HSN := Lib.hid (fun k => sortI_snoc (l.take j) l[j] k)
      rw [← List.take_succ_eq_append_getElem h] at HSN
      have HPW := Lib.hid (sortI_pw (l.take j))
      have HK : Hid (∀ W A c, j + 1 ≤ c → Grew w W → TRow w.heap.size W 3 A (iV (sortI (l.take (j + 1)))) → SrtTAt w l (.slice A (j + 1) c) (.int .i64 ((j : Int) + 1)) W) := Lib.hid fun W A c hc hW hR => ⟨j + 1, A, c, by omega, by go_num, rfl, hc, hW, hR⟩
      obtain ⟨b2, o2, rfl⟩ := irow_some RA.out h
      have HRX : Hid (∀ W, Grew w W → b2 < W.heap.size ∧ W.cell? ⟨b2, o2 + j, none⟩ = some (.int .i64 l[j])) := Lib.hid fun W hW => irow_cell (RA.out.grew hW) h rfl
      have hj6 : j ≤ 1000000 := by omega
      clear HRT0
      generalize sortI (l.take j) = s at *
      generalize sortI (l.take (j + 1)) = s1 at *
      generalize l[j] = x at *
      obtain ⟨wo, hwo⟩ : ∃ wo : World, wo = wr := ⟨_, rfl⟩
      subst hwo
      go_upto_region 6 with fail
      go_loopw [5] (fun kv wx => ScanTAt wo s x kv wx) (fun kv _ => (intOf kv).toNat)
      case atStart => exact ⟨j, by omega, rfl, Grew.refl _, by simp [List.drop_of_length_le (Nat.le_of_eq hsl)]⟩
      case round =>
        obtain ⟨q, hq, rfl, hgx, hd⟩ := hrel
        have HD := Lib.hid hd
        have HGX := Lib.hid hgx
        clear hgx hd
        by_cases hgo : ∃ h : q - 1 < s.length, 0 < q ∧ x < s[q - 1]
        · obtain ⟨hq1, hq0, hlt⟩ := hgo
          obtain ⟨q, rfl⟩ : ∃ p, q = p + 1 := ⟨q - 1, by omega⟩
          rw [Nat.add_sub_cancel] at hq1
          have hlt' : x < s[q] := hlt
          obtain ⟨b, o, rfl, hb, hc⟩ := rowI_at (HR.out.grew HGX.out) hq1
          obtain ⟨hb2, hc2⟩ := HRX.out wr (HG.out.trans HGX.out)
          have HE : Hid (∀ y ∈ s.drop q, x ≤ y) := Lib.hid fun y hy => by
            rw [List.drop_eq_getElem_cons hq1] at hy
            rcases List.mem_cons.1 hy with hy | hy
            · rw [hy]; omega
            · exact HD.out y hy
          have hpos : (0 : Int) < (q : Int) + 1 := by omega
          have hpos2 : decide ((0 : Int) < (q : Int) + 1) = true := decide_eq_true hpos
          clear hlt
          generalize s[q] = y at *
          go_wp2
          go_quiet (fail)
          go_wp2
          exact ⟨⟨q, by omega, by go_num, HGX.out.drewN _, HE.out⟩, by simp only [intOf]; omega⟩
        · have HT : Hid (∀ y ∈ s.take q, y ≤ x) := Lib.hid fun y hy => by
            rcases Nat.eq_zero_or_pos q with e | e
            · subst e; simp at hy
            · have h1 : q - 1 < s.length := by omega
              have h2 : s[q - 1] ≤ x := by
                rcases Int.lt_or_le x s[q - 1] with h3 | h3
                · exact absurd ⟨h1, e, h3⟩ hgo
                · exact h3
              obtain ⟨i, hi, rfl⟩ := List.getElem_of_mem hy
              rw [List.length_take] at hi
              have h4 := sorted_le HPW.out (i := i) (j := q - 1) (by omega) h1
              rw [List.getElem_take]
              omega
          have HS1 := Lib.hid (HSN.out q HT.out HD.out)
          have HQJ : Hid (q ≤ 1000000 ∧ q ≤ j) := Lib.hid ⟨by omega, by omega⟩
          rcases Nat.eq_zero_or_pos q with e | e
          · subst e
            clear hgo HT HD
            go_wp2
            go_quiet (fail)
            have HGQ := Lib.hid ((HG.out.trans HGX.out).drewN nq)
            have HRQ : Hid (Row (wr.drewN nq) B (iV s)) := Lib.hid (HR.out.grew (HGX.out.drewN nq))
            generalize wr.drewN nq = wq at *
            clear HGX HG
            have hst : (iV (s.take 0)).length = 0 := by simp [iV]
            have hsd : (iV (s.drop 0)).length = j := by simp [iV, hsl]
            have HRT : Hid (∀ W, Grew wq W → Row W B (iV (s.take 0))) := Lib.hid fun W hW => row_takeI (HRQ.out.grew hW) _
            have HRD : Hid (∀ W, Grew wq W → Row W B (iV (s.drop 0))) := Lib.hid fun W hW => by rw [List.drop_zero]; exact HRQ.out.grew hW
            generalize s.take 0 = st at *
            generalize s.drop 0 = sd at *
            go_wp2_with (at_builtin; first | (refine wpList_app rfl (.tmp 31) (.tmp 34) 31 3 rfl w (.int .i64 0) 8 Tryz.underlying31 infoI rfl (by decide) _ 0 [] rfl (own_empty _ _ _ _ _ rfl HGQ.out.size) _ _ _ (iV st) rfl hst (HRT.out _ ((Grew.refl wq).alloc _)) (iV_one _) (by have := HQJ.out; omega) (HGQ.out.alloc _) ?_; intro A1 c1 w1 ho1 hr1 hg1 hgb1 hor1; rw [Nat.zero_add, List.nil_append] at ho1; rw [Nat.zero_add] at hor1; have HO1 := Lib.hid ho1; have HG1 := Lib.hid hg1; have HGQ1 : Hid (Grew wq w1) := Lib.hid (((Grew.refl wq).alloc _).grown hgb1 (by intro k hk; cases hk; exact Nat.le_refl _)); have HOW1 : Hid (∀ k, (Value.slice A1 0 c1).ownBlock = some k → wq.heap.size ≤ k) := Lib.hid (by rintro k hk; rcases hor1 with h | h <;> (rw [h] at hk; cases hk; simp)); clear hor1 ho1 hr1 hg1 hgb1; obtain ⟨y1, y2⟩ := HRX.out w1 HG1.out) | (refine wpList_app rfl (.tmp 36) (.tmp 41) 31 3 rfl w (.int .i64 0) 8 Tryz.underlying31 infoI rfl (by decide) _ _ _ rfl (own_alloc HO1.out _) _ 1 1 [.int .i64 x] rfl rfl (row_one _ _ _ _ rfl) (by simp [Value.oneCell']) (by have := HQJ.out; omega) (HG1.out.alloc _) ?_; intro A2 c2 w2 ho2 hr2 hg2 hgb2 _; have HO2 := Lib.hid ho2; have HG2 := Lib.hid hg2; have HGQ2 : Hid (Grew wq w2) := Lib.hid ((HGQ1.out.alloc _).grown hgb2 (HOW1.out)); clear ho2 hr2 hg2 hgb2) | (refine wpList_app rfl (.tmp 43) (.tmp 46) 31 3 rfl w (.int .i64 0) 8 Tryz.underlying31 infoI rfl (by decide) _ _ _ rfl HO2.out _ _ _ (iV sd) rfl hsd (HRD.out _ HGQ2.out) (iV_one _) (by have := HQJ.out; omega) HG2.out ?_; intro A3 c3 w3 ho3 hr3 hg3 _ _; rw [show 1 + j = j + 1 by have := HQJ.out; omega] at ho3 ⊢; have HF := Lib.hid (HK.out w3 A3 c3 (own_cap ho3) hg3 (by rw [← HS1.out]; have hT := TRow.own ho3; simpa [iV] using hT)); clear ho3 hr3 hg3))
            exact ⟨HF.out, by simp only [intOf]; omega⟩
          · obtain ⟨q, rfl⟩ : ∃ p, q = p + 1 := ⟨q - 1, by omega⟩
            have hq1 : q < s.length := by omega
            have hle : s[q] ≤ x := by
              rcases Int.lt_or_le x s[q] with h3 | h3
              · exact absurd ⟨hq1, e, h3⟩ hgo
              · exact h3
            obtain ⟨b, o, rfl, hb, hc⟩ := rowI_at (HR.out.grew HGX.out) hq1
            obtain ⟨hb2, hc2⟩ := HRX.out wr (HG.out.trans HGX.out)
            have hpos : (0 : Int) < (q : Int) + 1 := by omega
            have hpos2 : decide ((0 : Int) < (q : Int) + 1) = true := decide_eq_true hpos
            clear hgo HT HD
            generalize s[q] = y at *
            go_wp2
            go_quiet (fail)
            have HGQ := Lib.hid ((HG.out.trans HGX.out).drewN nq)
            have HRQ : Hid (Row (wr.drewN nq) (some ⟨b, o, none⟩) (iV s)) := Lib.hid (HR.out.grew (HGX.out.drewN nq))
            clear hb hc hb2 hc2 hpos hpos2
            generalize wr.drewN nq = wq at *
            clear HGX HG
            have hst : (iV (s.take (q + 1))).length = (q + 1) := by simp [iV]; omega
            have hsd : (iV (s.drop (q + 1))).length = j - (q + 1) := by simp [iV, hsl]
            have HRT : Hid (∀ W, Grew wq W → Row W (some ⟨b, o, none⟩ : Option Addr) (iV (s.take (q + 1)))) := Lib.hid fun W hW => row_takeI (HRQ.out.grew hW) _
            have HRD : Hid (∀ W, Grew wq W → Row W (if c = q + 1 then some ⟨b, o, none⟩ else some ⟨b, o + (q + 1), none⟩) (iV (s.drop (q + 1)))) := Lib.hid fun W hW => by
              split
              · exact Or.inl (by rw [List.drop_of_length_le (by omega)]; rfl)
              · exact row_dropI (HRQ.out.grew hW) _
            generalize s.take (q + 1) = st at *
            generalize s.drop (q + 1) = sd at *
            go_wp2_with (at_builtin; first | (refine wpList_app rfl (.tmp 31) (.tmp 34) 31 3 rfl w (.int .i64 0) 8 Tryz.underlying31 infoI rfl (by decide) _ 0 [] rfl (own_empty _ _ _ _ _ rfl HGQ.out.size) _ _ _ (iV st) rfl hst (HRT.out _ ((Grew.refl wq).alloc _)) (iV_one _) (by have := HQJ.out; omega) (HGQ.out.alloc _) ?_; intro A1 c1 w1 ho1 hr1 hg1 hgb1 hor1; rw [Nat.zero_add, List.nil_append] at ho1; rw [Nat.zero_add] at hor1; have HO1 := Lib.hid ho1; have HG1 := Lib.hid hg1; have HGQ1 : Hid (Grew wq w1) := Lib.hid (((Grew.refl wq).alloc _).grown hgb1 (by intro k hk; cases hk; exact Nat.le_refl _)); have HOW1 : Hid (∀ k, (Value.slice A1 (q + 1) c1).ownBlock = some k → wq.heap.size ≤ k) := Lib.hid (by rintro k hk; rcases hor1 with h | h <;> (rw [h] at hk; cases hk; simp)); clear hor1 ho1 hr1 hg1 hgb1; obtain ⟨y1, y2⟩ := HRX.out w1 HG1.out) | (refine wpList_app rfl (.tmp 36) (.tmp 41) 31 3 rfl w (.int .i64 0) 8 Tryz.underlying31 infoI rfl (by decide) _ _ _ rfl (own_alloc HO1.out _) _ 1 1 [.int .i64 x] rfl rfl (row_one _ _ _ _ rfl) (by simp [Value.oneCell']) (by have := HQJ.out; omega) (HG1.out.alloc _) ?_; intro A2 c2 w2 ho2 hr2 hg2 hgb2 _; have HO2 := Lib.hid ho2; have HG2 := Lib.hid hg2; have HGQ2 : Hid (Grew wq w2) := Lib.hid ((HGQ1.out.alloc _).grown hgb2 (HOW1.out)); clear ho2 hr2 hg2 hgb2) | (refine wpList_app rfl (.tmp 43) (.tmp 46) 31 3 rfl w (.int .i64 0) 8 Tryz.underlying31 infoI rfl (by decide) _ _ _ rfl HO2.out _ _ _ (iV sd) rfl hsd (HRD.out _ HGQ2.out) (iV_one _) (by have := HQJ.out; omega) HG2.out ?_; intro A3 c3 w3 ho3 hr3 hg3 _ _; rw [show q + 1 + 1 + (j - (q + 1)) = j + 1 by have := HQJ.out; omega] at ho3 ⊢; have HF := Lib.hid (HK.out w3 A3 c3 (own_cap ho3) hg3 (by rw [← HS1.out]; have hT := TRow.own ho3; simpa [iV] using hT)); clear ho3 hr3 hg3))
            exact ⟨HF.out, by simp only [intOf]; omega⟩
    · obtain rfl : j = l.length := by omega
      have HF : Hid (IntsT w (sortI l) (.returned (.slice B l.length c)) wr) := Lib.hid ⟨B, c, by rw [sortI_len], by rw [sortI_len]; exact hjc, HG.out, by have := HRT0.out; rw [List.take_length] at this; exact this⟩
      go_wp2
      go_ret
      exact HF.out
end Go.Proofs.YtbglmcebkpkccaaGreatDoor

namespace Go.Proofs.YtbglmcebkpkccaaGreatDoor
open Go.RowKit
attribute [local go_sem] more_cell more_frozen more_more more_setCell more_of_drew more_of_drewN lt_more le_more past_cell past_cell2 past_frozen past_frozen2 past_setCell past_setCell2 mid_cell mid_frozen mid_setCell
attribute [local go_sem ↓] Go.wp_at_zero Go.wp_at_succ

def HasAt (w : World) (l : List Int) (v : Int) (i : Value) (wr : World) : Prop := ∃ j : Nat, j ≤ l.length ∧ i = .int .i64 j ∧ Grew w wr ∧ v ∉ l.take j
theorem not_take {l : List Int} {v : Int} {j : Nat} (h : j < l.length) (hn : v ∉ l.take j) (hx : l[j] ≠ v) : v ∉ l.take (j + 1) := by
  rw [List.take_succ_eq_append_getElem h, List.mem_append]
  rintro (h1 | h1)
  · exact hn h1
  · exact hx (List.mem_singleton.1 h1).symm
theorem rhas21_any (l : List Int) (v : Int) (A : Option Addr) (k : Nat) (hl : l.length ≤ 1000000) (w : World) (ra : Row w A (iV l)) :
    Gives Tryz.prog 56 #[.slice A l.length k, .int .i64 v] w (.bool (decide (v ∈ l))) := by
  have RA := Lib.hid ra
  obtain ⟨t, ht⟩ : ∃ t, decide (v ∈ l) = t := ⟨_, rfl⟩
  rw [ht]
  have HT := Lib.hid ht
  clear ra ht
  unfold Gives
  go_enter Tryz.func56, Tryz.ntmps56
  go_wp2
  go_loopw [5] (fun i wr => HasAt w l v i wr) (fun i _ => l.length - (intOf i).toNat)
  case atStart => exact ⟨0, Nat.zero_le _, rfl, Grew.refl w, by simp⟩
  case round =>
    obtain ⟨j, hj, rfl, hg, hn⟩ := hrel
    have HG := Lib.hid hg
    have HN := Lib.hid hn
    clear hg hn
    by_cases h : j < l.length
    · obtain ⟨b, o, rfl, hb, hc⟩ := rowI_at (RA.out.grew HG.out) h
      have HNx := Lib.hid (not_take h HN.out)
      have HY : Hid (l[j] = v → t = true) := Lib.hid fun e => by rw [← HT.out, ← e]; exact decide_eq_true (List.getElem_mem h)
      clear HN
      generalize l[j] = x at *
      by_cases e : x = v
      · obtain rfl := HY.out e
        have e1 : (x == v) = true := by simpa using e
        clear HNx HY e
        go_wp2
        go_ret
        exact ⟨rfl, HG.out⟩
      · have HN2 := Lib.hid (HNx.out e)
        have e1 : (x == v) = false := by simpa using e
        clear HNx HY e
        go_wp2
        exact ⟨⟨j + 1, by omega, by go_num, HG.out, HN2.out⟩, by simp only [intOf]; omega⟩
    · obtain rfl : j = l.length := by omega
      rw [List.take_length] at HN
      obtain rfl : t = false := by rw [← HT.out]; exact decide_eq_false HN.out
      clear HN HT
      go_wp2
      go_ret
      exact ⟨rfl, HG.out⟩
end Go.Proofs.YtbglmcebkpkccaaGreatDoor
