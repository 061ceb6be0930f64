/- Layer 39: a way to ask, the document's own. -/
import Derived.Test.YtcokhgomibimcaaAsk5
import Derived.Test.YtcokhgomibimcaaAskMath3
import Derived.Test.YtcokhgomibimcaaSame
namespace Go.Proofs.Ytcokhgomibimcaa
open Go.RowKit
attribute [local go_sem] more_cell more_frozen more_more more_setCell more_of_drew more_of_drewN lt_more le_more past_cell past_cell2 past_frozen past_frozen2 past_setCell past_setCell2 mid_cell mid_frozen mid_setCell
attribute [local go_sem ↓] Go.wp_at_zero Go.wp_at_succ

def SevenAt (l : List Nat) (w : World) (lv qv i : Value) (wr : World) : Prop :=
  ∃ (j q : Nat) (A : Option Addr) (c : Nat) (ls : List Int), j ≤ 7 ∧ q ≤ l.length ∧ i = .int .i64 j ∧ qv = .int .i64 q ∧ lv = .slice A j c ∧ wr.ownsRow (w.heap.size + 1) 3 1 (.slice A j c) j (iV ls) ∧ numsS j (l, false) = (ls, l.drop q, false) ∧ Blok wr w.heap.size 39 zeroCs ∧ Grew w wr
def RStatsAt (l : List Nat) (w : World) (b B k y0 : Nat) (f : Bool) (o : OptS) (P : Option Addr) (pk : List Int) (pc : Nat) (yv i : Value) (wr : World) : Prop :=
  ∃ (j q : Nat) (A : Option Addr) (c : Nat) (ls : List StatS) (css : List (List Value)), j ≤ k ∧ q ≤ l.length ∧ i = .int .i64 j ∧ yv = .int .i64 q ∧ Blok wr b 39 (askCs (.slice A j c) f o (.slice P pk.length pc)) ∧ ListR (StatR (TRow B wr)) 2 ls css ∧ wr.ownsRow B 97 2 (.slice A j c) j css.flatten ∧ statsS j (l.drop y0, false) = (ls, l.drop q, false) ∧ TRow (w.heap.size + 1) wr 3 P (iV pk) ∧ Blok wr w.heap.size 39 zeroCs ∧ B ≤ wr.heap.size ∧ Grew w wr
theorem len7 {ls : List Int} (h : ls.length = 7) : ∃ f a0 a1 a2 a3 a4 a5, ls = [f, a0, a1, a2, a3, a4, a5] := by
  match ls, h with
  | [f, a0, a1, a2, a3, a4, a5], _ => exact ⟨f, a0, a1, a2, a3, a4, a5, rfl⟩
theorem own_head {w : World} {base : Nat} {e : TypeId} {size n c : Nat} {A : Option Addr} {xs : List Value} (h : w.ownsRow base e size (.slice A n c) n xs) (hn : 0 < n) : ∃ g, A = some ⟨g, 0, none⟩ := by
  rcases h.2 with ⟨h1, h2⟩ | ⟨g, cap, cur, h1, _⟩
  · omega
  · injection h1 with h1 _ _
    exact ⟨g, h1⟩
set_option maxHeartbeats 8000000 in
set_option maxRecDepth 100000 in
theorem rget_any (l : List Nat) (A : Option Addr) (c : Nat) (hc : l.length ≤ c) (hl : l.length ≤ 1000000) (hx : bytesOk l) (w : World) (hr : Row w A (bV l)) :
    Calls Try.prog 31 #[.slice A l.length c] w (GetT w (getA l)) := by
  have HG : Hid (∀ (n : Nat) W, Grew w W → Calls Try.prog 23 #[.slice A l.length c, .int .i64 n] W (GetIT W (getI l n))) := Lib.hid fun n W hW => rgetint_any l A c n hc hl hx W (hr.grew hW)
  have HGs : Hid (∀ (n : Nat) W, Grew w W → Calls Try.prog 24 #[.slice A l.length c, .int .i64 n] W (GetIsT W (getIs l n))) := Lib.hid fun n W hW => rgetints_any l A c n hc hl hx W (hr.grew hW)
  have HCn : Hid (∀ (n : Nat) W, Grew w W → Calls Try.prog 101 #[.slice A l.length c, .int .i64 n] W (GetIT W (rcnt l n))) := Lib.hid fun n W hW => rcount_any l A c n hc hl hx W (hr.grew hW)
  have HSt : Hid (∀ (q : Nat) W, q ≤ l.length → Grew w W → Calls Try.prog 107 #[.slice A l.length c, .int .i64 q] W (StatOut l W (statS (l.drop q, false)))) := Lib.hid fun q W hq hW => rstat_any l A c q hq hc hl hx W (hr.grew hW)
  have HX := Lib.hid hx
  clear hr hx
  obtain ⟨r, hr⟩ : ∃ r, getA l = r := ⟨_, rfl⟩
  rw [hr]
  have HR : Hid (∀ v, getA l = v → r = v) := Lib.hid fun v h => hr.symm.trans h
  clear hr
  have HA0 : Hid (SevenAt l w (.slice none 0 0) (.int .i64 0) (.int .i64 0) (w.alloc (.cells zeroCs 39))) := Lib.hid
    ⟨0, 0, none, 0, [], by decide, Nat.zero_le _, rfl, rfl, rfl, own_none _ _ _ _, rfl, Blok.new w _ _ _ rfl, (Grew.refl w).alloc _⟩
  go_enter Try.func31, Try.ntmps31
  go_wp2
  go_loopw [4, 5, 6] (fun lv qv i wr => SevenAt l w lv qv i wr) (fun _ _ i _ => 7 - (intOf i).toNat)
  case atStart => exact HA0.out
  case round =>
    clear HA0
    obtain ⟨j, q, A1, c1, ls, hj, hq, rfl, rfl, rfl, ho, hn, hb, hg⟩ := hrel
    have HO := Lib.hid ho
    have HN := Lib.hid hn
    have HB := Lib.hid hb
    have HGw := Lib.hid hg
    have HSz := Lib.hid hb.lt
    clear ho hn hb hg
    by_cases h : j < 7
    · have G1 := Lib.hid (HG.out q wr HGw.out)
      rcases getI_step HX.out hq with ⟨h1, h2⟩ | ⟨v, q2, hq2, h1, h2⟩
      · rw [h1] at G1
        have HZ : Hid (r = (askZ, 7)) := Lib.hid (by
          refine HR.out _ ?_
          have h3 : (numsS (j + 1) (l, false)).2.2 = true := by
            show (numS (numsS j (l, false)).2).2.2 = true
            rw [HN.out]
            simp only
            rw [h2]
          have h4 := numsS_stay (l, false) (j + 1) (7 - (j + 1)) h3
          rw [show j + 1 + (7 - (j + 1)) = 7 by omega] at h4
          exact getA_bad7 h4)
        clear h1 h2
        go_wp2_with fail
        refine G1.out.mono ?_
        rintro e w2 ⟨rfl, hg2⟩
        have HG2 := Lib.hid (HGw.out.trans hg2)
        have R2 := Lib.hid (HB.out.grew hg2)
        clear hg2
        have d0 := R2.out.cell 0
        have d1 := R2.out.cell 1
        have d2 := R2.out.cell 2
        have d3 := R2.out.cell 3
        have d4 := R2.out.cell 4
        have d5 := R2.out.cell 5
        have d6 := R2.out.cell 6
        have d7 := R2.out.cell 7
        have d8 := R2.out.cell 8
        have z0 := R2.out.thaw 0
        have z1 := R2.out.thaw 1
        have z2 := R2.out.thaw 2
        have z3 := R2.out.thaw 3
        have z4 := R2.out.thaw 4
        have z5 := R2.out.thaw 5
        have z6 := R2.out.thaw 6
        have z7 := R2.out.thaw 7
        have z8 := R2.out.thaw 8
        simp [zeroCs] at d0 d1 d2 d3 d4 d5 d6 d7 d8
        have hltr := R2.out.lt
        go_wp2
        refine bodyPost_ret (v := .tuple #[.agg #[.slice none 0 0, .bool false, .int .i64 0, .int .i64 0, .int .i64 0, .int .i64 0, .int .i64 0, .int .i64 0, .slice none 0 0], .int .i64 7]) (by simp [results, Try.results31, go_sem, d0, d1, d2, d3, d4, d5, d6, d7, d8]) rfl ?_
        rw [HZ.out]
        refine ⟨_, rfl, ⟨none, 0, none, 0, rfl, ⟨[], ListR.nil, Or.inl rfl⟩, Or.inl rfl⟩, ?_⟩
        exact ((((((((((Turns.refl _ w.heap.size).set 0 _).set 1 _).set 2 _).set 3 _).set 4 _).set 5 _).set 6 _).set 7 _).set 8 _).below HG2.out (Nat.le_refl _)
      · rw [h1] at G1
        have HN1 : Hid (numsS (j + 1) (l, false) = (ls ++ [v], l.drop q2, false)) := Lib.hid (by
          show ((numsS j (l, false)).1 ++ [(numS (numsS j (l, false)).2).1], (numS (numsS j (l, false)).2).2) = _
          rw [HN.out]
          simp only
          rw [h2])
        clear h1 h2
        go_wp2_with (first | (go_at_call 23; refine G1.out.mono ?_; rintro e w2 ⟨rfl, hg2⟩; have HG2 := Lib.hid hg2; clear hg2) | (at_builtin; refine wpList_appB rfl (.tmp 35) (.tmp 37) 23 3 1 rfl (w.heap.size + 1) (.int .i64 0) 8 Try.underlying23 infoI rfl (by decide) (by decide) _ j _ rfl (own_alloc (own_grew HO.out HG2.out) _) _ 1 1 [.int .i64 v] rfl rfl (row_one _ _ _ _ rfl) (by simp; rfl) (by omega) (by have := HG2.out.size; have := HSz.out; simp; omega) ?_; intro A4 c4 w4 ho4 hg4; have HO4 := Lib.hid ho4; have HG4 := Lib.hid hg4; clear ho4 hg4))
        have hrow : ∀ i, (Value.slice A1 j c1).ownBlock = some i → w.heap.size + 1 ≤ i := own_base HO.out
        refine ⟨⟨j + 1, q2, A4, c4, ls ++ [v], by omega, hq2, by go_num, rfl, rfl, ?_, HN1.out, ?_, ?_⟩, by simp only [intOf]; omega⟩
        · rw [← iV_snoc]
          exact HO4.out
        · exact ((HB.out.grew HG2.out).alloc _).grown HG4.out (fun e => by have := hrow _ e; omega)
        · exact ((HGw.out.trans HG2.out).alloc _).grown HG4.out (fun i hi => by have := hrow i hi; omega)
    · obtain rfl : j = 7 := by omega
      have hl7 := numsS_len 7 (l, false)
      rw [HN.out] at hl7
      obtain ⟨f, a0, a1, a2, a3, a4, a5, rfl⟩ := len7 hl7
      clear hl7 h hj
      obtain ⟨g7, rfl⟩ := own_head HO.out (by decide)
      have hmid := getA_mid HN.out
      have HRw := Lib.hid (own_rowI HO.out)
      have hg7 := row_lt HRw.out (by simp [iV])
      have hg7b : w.heap.size < g7 := by have h := own_base HO.out g7 rfl; omega
      have G1 := Lib.hid (HGs.out q wr HGw.out)
      rcases ints_at HX.out hq with ⟨h1, h2⟩ | ⟨pk, x, hx1, h1, h2⟩
      · rw [h1] at G1
        have HZ : Hid (r = (askZ, 7)) := Lib.hid (by
          refine HR.out _ ?_
          by_cases hf : f ≠ 0 ∧ f ≠ 1
          · exact hmid.1 hf
          · exact getA_bad3 (by rw [(hmid.2 hf).2.2]; exact h2))
        clear h1 h2 hmid
        go_wp2_with fail
        refine G1.out.mono ?_
        rintro e w2 ⟨A2, c2, rfl, _, hg2⟩
        have HG2 := Lib.hid (HGw.out.trans hg2)
        have R2 := Lib.hid (HB.out.grew hg2)
        clear hg2
        have d0 := R2.out.cell 0
        have d1 := R2.out.cell 1
        have d2 := R2.out.cell 2
        have d3 := R2.out.cell 3
        have d4 := R2.out.cell 4
        have d5 := R2.out.cell 5
        have d6 := R2.out.cell 6
        have d7 := R2.out.cell 7
        have d8 := R2.out.cell 8
        have z0 := R2.out.thaw 0
        have z1 := R2.out.thaw 1
        have z2 := R2.out.thaw 2
        have z3 := R2.out.thaw 3
        have z4 := R2.out.thaw 4
        have z5 := R2.out.thaw 5
        have z6 := R2.out.thaw 6
        have z7 := R2.out.thaw 7
        have z8 := R2.out.thaw 8
        simp [zeroCs] at d0 d1 d2 d3 d4 d5 d6 d7 d8
        have hltr := R2.out.lt
        go_wp2
        refine bodyPost_ret (v := .tuple #[.agg #[.slice none 0 0, .bool false, .int .i64 0, .int .i64 0, .int .i64 0, .int .i64 0, .int .i64 0, .int .i64 0, .slice none 0 0], .int .i64 7]) (by simp [results, Try.results31, go_sem, d0, d1, d2, d3, d4, d5, d6, d7, d8]) rfl ?_
        rw [HZ.out]
        refine ⟨_, rfl, ⟨none, 0, none, 0, rfl, ⟨[], ListR.nil, Or.inl rfl⟩, Or.inl rfl⟩, ?_⟩
        exact ((((((((((Turns.refl _ w.heap.size).set 0 _).set 1 _).set 2 _).set 3 _).set 4 _).set 5 _).set 6 _).set 7 _).set 8 _).below HG2.out (Nat.le_refl _)
      · rw [h1] at G1
        by_cases hf : f ≠ 0 ∧ f ≠ 1
        · have HZ : Hid (r = (askZ, 7)) := Lib.hid (HR.out _ (hmid.1 hf))
          clear h1 h2 hmid
          go_wp2_with fail
          refine G1.out.mono ?_
          rintro e w2 ⟨A2, c2, rfl, _, hg2⟩
          have HG2 := Lib.hid (HGw.out.trans hg2)
          have R2 := Lib.hid (HB.out.grew hg2)
          have k0 := (irow_cell (i := 0) (HRw.out.grew hg2) (by simp) rfl).2
          simp at k0
          clear hg2
          have hneg : f < 0 ∨ (¬ f < 0 ∧ 1 < f) := by omega
          clear hf
          rcases hneg with hn | ⟨hn, hn1⟩
          all_goals
            have d0 := R2.out.cell 0
            have d1 := R2.out.cell 1
            have d2 := R2.out.cell 2
            have d3 := R2.out.cell 3
            have d4 := R2.out.cell 4
            have d5 := R2.out.cell 5
            have d6 := R2.out.cell 6
            have d7 := R2.out.cell 7
            have d8 := R2.out.cell 8
            have z0 := R2.out.thaw 0
            have z1 := R2.out.thaw 1
            have z2 := R2.out.thaw 2
            have z3 := R2.out.thaw 3
            have z4 := R2.out.thaw 4
            have z5 := R2.out.thaw 5
            have z6 := R2.out.thaw 6
            have z7 := R2.out.thaw 7
            have z8 := R2.out.thaw 8
            simp [zeroCs] at d0 d1 d2 d3 d4 d5 d6 d7 d8
            have hltr := R2.out.lt
            go_wp2
            refine bodyPost_ret (v := .tuple #[.agg #[.slice none 0 0, .bool false, .int .i64 0, .int .i64 0, .int .i64 0, .int .i64 0, .int .i64 0, .int .i64 0, .slice none 0 0], .int .i64 7]) (by simp [results, Try.results31, go_sem, d0, d1, d2, d3, d4, d5, d6, d7, d8]) rfl ?_
            rw [HZ.out]
            refine ⟨_, rfl, ⟨none, 0, none, 0, rfl, ⟨[], ListR.nil, Or.inl rfl⟩, Or.inl rfl⟩, ?_⟩
            exact ((((((((((Turns.refl _ w.heap.size).set 0 _).set 1 _).set 2 _).set 3 _).set 4 _).set 5 _).set 6 _).set 7 _).set 8 _).below HG2.out (Nat.le_refl _)
        · obtain ⟨m1, m2, m3⟩ := hmid.2 hf
          rw [h2] at m3
          have M1 := Lib.hid m1
          have M2 := Lib.hid m2
          have M3 := Lib.hid m3
          have hn : ¬ f < 0 := by omega
          have hn1 : ¬ 1 < f := by omega
          clear h1 h2 m1 m2 m3 hmid hf
          go_wp2_with fail
          refine G1.out.mono ?_
          rintro e w2 ⟨P, pc, rfl, hoP, hg2⟩
          have HG2 := Lib.hid (HGw.out.trans hg2)
          have R2 := Lib.hid (HB.out.grew hg2)
          have HRw2 := Lib.hid (HRw.out.grew hg2)
          have HP2 : Hid (TRow (w.heap.size + 1) w2 3 P (iV pk)) := Lib.hid ((TRow.own hoP).low HSz.out)
          have k0 := (irow_cell (i := 0) HRw2.out (by simp) rfl).2
          simp at k0
          have hg72 : g7 < w2.heap.size := Nat.lt_of_lt_of_le hg7 hg2.size
          clear hg2 hoP
          go_upto_region 14 with fail
          have hS0 : Row w2.drew (some ⟨g7, 0, none⟩) (iV [f, a0, a1, a2, a3, a4, a5]) := HRw2.out.grew (Grew.refl _).drew
          clear k0
          refine wp_region_last (fun W => Row W (some ⟨g7, 0, none⟩) (iV [f, a0, a1, a2, a3, a4, a5])) 26 rfl (by kernel_rfl) ?_
          refine last_take 0 (v := ?_) rfl (by kernel_rfl) (by kernel_rfl) (by kernel_rfl) (by kernel_rfl) (fun _ _ _ h => h) (by rfl) ?_ hS0 ?_
          rotate_left
          · (intro W hW; go_simp; with_reducible rfl)
          refine last_take 4 (v := ?_) rfl (by kernel_rfl) (by kernel_rfl) (by kernel_rfl) (by kernel_rfl) (fun _ _ _ h => h) (by rfl) ?_ hS0 ?_
          rotate_left
          · (intro W hW; go_simp; with_reducible rfl)
          refine last_take 7 (v := ?_) rfl (by kernel_rfl) (by kernel_rfl) (by kernel_rfl) (by kernel_rfl) (fun _ _ _ h => h) (by rfl) ?_ hS0 ?_
          rotate_left
          · (intro W hW; go_simp; with_reducible rfl)
          refine last_take 10 (v := ?_) rfl (by kernel_rfl) (by kernel_rfl) (by kernel_rfl) (by kernel_rfl) (fun _ _ _ h => h) (by rfl) ?_ hS0 ?_
          rotate_left
          · (intro W hW; go_simp; with_reducible rfl)
          refine last_take 13 (v := ?_) rfl (by kernel_rfl) (by kernel_rfl) (by kernel_rfl) (by kernel_rfl) (fun _ _ _ h => h) (by rfl) ?_ hS0 ?_
          rotate_left
          · (intro W hW; go_simp; with_reducible rfl)
          refine last_take 16 (v := ?_) rfl (by kernel_rfl) (by kernel_rfl) (by kernel_rfl) (by kernel_rfl) (fun _ _ _ h => h) (by rfl) ?_ hS0 ?_
          rotate_left
          · (intro W hW; go_simp; with_reducible rfl)
          refine last_take 19 (v := ?_) rfl (by kernel_rfl) (by kernel_rfl) (by kernel_rfl) (by kernel_rfl) (fun _ _ _ h => h) (by rfl) ?_ hS0 ?_
          rotate_left
          · (intro W hW; go_simp; with_reducible rfl)
          refine last_take 23 (v := ?_) rfl (by kernel_rfl) (by kernel_rfl) (by kernel_rfl) (by kernel_rfl) (fun _ _ _ h => h) (by rfl) ?_ hS0 ?_
          rotate_left
          · (intro W hW; go_simp; with_reducible rfl)
          refine last_norm (a' := ?_) ?_ ?_
          rotate_left
          · (go_simp; with_reducible rfl)
          refine last_take 1 (v := ?_) rfl (by kernel_rfl) (by kernel_rfl) (by kernel_rfl) (by kernel_rfl) (fun _ _ _ h => h) (by rfl) ?_ hS0 ?_
          rotate_left
          · (intro W hW; go_simp; with_reducible rfl)
          refine last_take 5 (v := ?_) rfl (by kernel_rfl) (by kernel_rfl) (by kernel_rfl) (by kernel_rfl) (fun _ _ _ h => h) (by rfl) ?_ hS0 ?_
          rotate_left
          · (intro W hW; go_simp; with_reducible rfl)
          refine last_take 8 (v := ?_) rfl (by kernel_rfl) (by kernel_rfl) (by kernel_rfl) (by kernel_rfl) (fun _ _ _ h => h) (by rfl) ?_ hS0 ?_
          rotate_left
          · (intro W hW; go_simp; with_reducible rfl)
          refine last_take 11 (v := ?_) rfl (by kernel_rfl) (by kernel_rfl) (by kernel_rfl) (by kernel_rfl) (fun _ _ _ h => h) (by rfl) ?_ hS0 ?_
          rotate_left
          · (intro W hW; go_simp; with_reducible rfl)
          refine last_take 14 (v := ?_) rfl (by kernel_rfl) (by kernel_rfl) (by kernel_rfl) (by kernel_rfl) (fun _ _ _ h => h) (by rfl) ?_ hS0 ?_
          rotate_left
          · (intro W hW; go_simp; with_reducible rfl)
          refine last_take 17 (v := ?_) rfl (by kernel_rfl) (by kernel_rfl) (by kernel_rfl) (by kernel_rfl) (fun _ _ _ h => h) (by rfl) ?_ hS0 ?_
          rotate_left
          · (intro W hW; go_simp; with_reducible rfl)
          refine last_take 20 (v := ?_) rfl (by kernel_rfl) (by kernel_rfl) (by kernel_rfl) (by kernel_rfl) (fun _ _ _ h => h) (by rfl) ?_ hS0 ?_
          rotate_left
          · (intro W hW; go_simp; with_reducible rfl)
          refine last_norm (a' := ?_) ?_ ?_
          rotate_left
          · (go_simp; with_reducible rfl)
          refine last_take 2 (v := ?_) rfl (by kernel_rfl) (by kernel_rfl) (by kernel_rfl) (by kernel_rfl) (fun _ _ _ h => h) (by rfl) ?_ hS0 ?_
          rotate_left
          · (intro W hW; have q := (irow_cell (i := 0) hW (by simp) rfl).2; simp at q; go_simp; with_reducible rfl)
          refine last_norm (a' := ?_) ?_ ?_
          rotate_left
          · (go_simp; with_reducible rfl)
          refine last_take 6 (v := ?_) rfl (by kernel_rfl) (by kernel_rfl) (by kernel_rfl) (by kernel_rfl) (fun _ _ _ h => h) (by rfl) ?_ hS0 ?_
          rotate_left
          · (intro W hW; have q := (irow_cell (i := 1) hW (by simp) rfl).2; simp at q; go_simp; with_reducible rfl)
          refine last_norm (a' := ?_) ?_ ?_
          rotate_left
          · (go_simp; with_reducible rfl)
          refine last_take 9 (v := ?_) rfl (by kernel_rfl) (by kernel_rfl) (by kernel_rfl) (by kernel_rfl) (fun _ _ _ h => h) (by rfl) ?_ hS0 ?_
          rotate_left
          · (intro W hW; have q := (irow_cell (i := 2) hW (by simp) rfl).2; simp at q; go_simp; with_reducible rfl)
          refine last_norm (a' := ?_) ?_ ?_
          rotate_left
          · (go_simp; with_reducible rfl)
          refine last_take 12 (v := ?_) rfl (by kernel_rfl) (by kernel_rfl) (by kernel_rfl) (by kernel_rfl) (fun _ _ _ h => h) (by rfl) ?_ hS0 ?_
          rotate_left
          · (intro W hW; have q := (irow_cell (i := 3) hW (by simp) rfl).2; simp at q; go_simp; with_reducible rfl)
          refine last_norm (a' := ?_) ?_ ?_
          rotate_left
          · (go_simp; with_reducible rfl)
          refine last_take 15 (v := ?_) rfl (by kernel_rfl) (by kernel_rfl) (by kernel_rfl) (by kernel_rfl) (fun _ _ _ h => h) (by rfl) ?_ hS0 ?_
          rotate_left
          · (intro W hW; have q := (irow_cell (i := 4) hW (by simp) rfl).2; simp at q; go_simp; with_reducible rfl)
          refine last_norm (a' := ?_) ?_ ?_
          rotate_left
          · (go_simp; with_reducible rfl)
          refine last_take 18 (v := ?_) rfl (by kernel_rfl) (by kernel_rfl) (by kernel_rfl) (by kernel_rfl) (fun _ _ _ h => h) (by rfl) ?_ hS0 ?_
          rotate_left
          · (intro W hW; have q := (irow_cell (i := 5) hW (by simp) rfl).2; simp at q; go_simp; with_reducible rfl)
          refine last_norm (a' := ?_) ?_ ?_
          rotate_left
          · (go_simp; with_reducible rfl)
          refine last_take 21 (v := ?_) rfl (by kernel_rfl) (by kernel_rfl) (by kernel_rfl) (by kernel_rfl) (fun _ _ _ h => h) (by rfl) ?_ hS0 ?_
          rotate_left
          · (intro W hW; have q := (irow_cell (i := 6) hW (by simp) rfl).2; simp at q; go_simp; with_reducible rfl)
          refine last_norm (a' := ?_) ?_ ?_
          rotate_left
          · (go_simp; with_reducible rfl)
          refine last_take 3 (v := ?_) rfl (by kernel_rfl) (by kernel_rfl) (by kernel_rfl) (by kernel_rfl) (fun _ _ _ h => h) (by rfl) ?_ hS0 ?_
          rotate_left
          · (intro W hW; go_simp; with_reducible rfl)
          refine last_take 22 (v := ?_) rfl (by kernel_rfl) (by kernel_rfl) (by kernel_rfl) (by kernel_rfl) (fun _ _ _ h => h) (by rfl) ?_ hS0 ?_
          rotate_left
          · (intro W hW; go_simp; with_reducible rfl)
          refine last_take 24 (v := ?_) rfl (by kernel_rfl) (by kernel_rfl) (by kernel_rfl) (by kernel_rfl) (fun _ _ _ h => h) (by rfl) ?_ hS0 ?_
          rotate_left
          · (intro W hW; go_simp; with_reducible rfl)
          refine last_norm (a' := ?_) ?_ ?_
          rotate_left
          · (go_simp; with_reducible rfl)
          refine last_call 25 (by kernel_rfl) (by kernel_rfl) rfl (by rfl) (fun K hK => ?_)
          go_simp
          go_wp2_with fail
          refine hK.out _ _ (row_alloc hS0 _) ?_
          clear hK K
          refine last_last (by kernel_rfl) (by kernel_rfl) rfl (by rfl) (fun K hK => ?_)
          go_simp
          go_wp2_with fail
          refine hK.out _ _ ?_
          clear hK K
          clear hS0 HRw HRw2 HO HN HB G1
          have HX1 := HX.out
          rcases cnt_at HX1 hx1 with ⟨h1, h2⟩ | ⟨k, y, hy, h1, h2⟩
          · have G2 : Hid (∀ W, Grew w W → Calls Try.prog 101 #[.slice A l.length c, .int .i64 x] W (GetIT W (0, 0, false))) := Lib.hid (by have h := HCn.out x; rw [h1] at h; exact h)
            have HZ : Hid (r = (askZ, 7)) := Lib.hid (HR.out _ (getA_bad4 M3.out h2))
            clear h1 h2 HX1
            go_wp2_with fail
            refine (G2.out _ (HG2.out.trans (by repeat (first | exact Grew.refl _ | apply Grew.alloc | apply Grew.drew)))).mono ?_
            rintro e w4 ⟨rfl, hg4⟩
            have H4 := Lib.hid (HG2.out.trans ((by repeat (first | exact Grew.refl _ | apply Grew.alloc | apply Grew.drew) : Grew w2 _).trans hg4))
            have R4 := Lib.hid (R2.out.grew ((by repeat (first | exact Grew.refl _ | apply Grew.alloc | apply Grew.drew) : Grew w2 _).trans hg4))
            clear hg4
            have d0 := R4.out.cell 0
            have d1 := R4.out.cell 1
            have d2 := R4.out.cell 2
            have d3 := R4.out.cell 3
            have d4 := R4.out.cell 4
            have d5 := R4.out.cell 5
            have d6 := R4.out.cell 6
            have d7 := R4.out.cell 7
            have d8 := R4.out.cell 8
            have z0 := R4.out.thaw 0
            have z1 := R4.out.thaw 1
            have z2 := R4.out.thaw 2
            have z3 := R4.out.thaw 3
            have z4 := R4.out.thaw 4
            have z5 := R4.out.thaw 5
            have z6 := R4.out.thaw 6
            have z7 := R4.out.thaw 7
            have z8 := R4.out.thaw 8
            simp [zeroCs] at d0 d1 d2 d3 d4 d5 d6 d7 d8
            have hltr := R4.out.lt
            go_wp2
            refine bodyPost_ret (v := .tuple #[.agg #[.slice none 0 0, .bool false, .int .i64 0, .int .i64 0, .int .i64 0, .int .i64 0, .int .i64 0, .int .i64 0, .slice none 0 0], .int .i64 7]) (by simp [results, Try.results31, go_sem, d0, d1, d2, d3, d4, d5, d6, d7, d8]) rfl ?_
            rw [HZ.out]
            refine ⟨_, rfl, ⟨none, 0, none, 0, rfl, ⟨[], ListR.nil, Or.inl rfl⟩, Or.inl rfl⟩, ?_⟩
            exact ((((((((((Turns.refl _ w.heap.size).set 0 _).set 1 _).set 2 _).set 3 _).set 4 _).set 5 _).set 6 _).set 7 _).set 8 _).below H4.out (Nat.le_refl _)
          · have G2 : Hid (∀ W, Grew w W → Calls Try.prog 101 #[.slice A l.length c, .int .i64 x] W (GetIT W ((k : Int), (y : Int), true))) := Lib.hid (by have h := HCn.out x; rw [h1] at h; exact h)
            have HTail : Hid (∀ ts sl sf, statsS k (l.drop y, false) = (ts, sl, sf) → r = if sf = true ∨ 0 < sl.length then (askZ, 7) else (⟨ts, decide (f = 1), ⟨a0, a1, a2, a3, a4, a5⟩, pk⟩, 0)) := Lib.hid fun ts sl sf h => HR.out _ (getA_tail M1.out M2.out M3.out h2 h)
            clear h1 h2 HX1 HR M1 M2 M3
            have hk : k ≤ 1000000 := by omega
            go_wp2_with fail
            refine (G2.out _ (HG2.out.trans (by repeat (first | exact Grew.refl _ | apply Grew.alloc | apply Grew.drew)))).mono ?_
            rintro e w4 ⟨rfl, hg4⟩
            have hbk : Blok w4 w2.heap.size 39 (askCs (.slice none 0 0) (f == 1) ⟨a0, a1, a2, a3, a4, a5⟩ (.slice P pk.length pc)) := Blok.grew (by first | exact Blok.new _ _ (askCs (.slice none 0 0) (f == 1) ⟨a0, a1, a2, a3, a4, a5⟩ (.slice P pk.length pc)) _ rfl | exact (Blok.new _ _ (askCs (.slice none 0 0) (f == 1) ⟨a0, a1, a2, a3, a4, a5⟩ (.slice P pk.length pc)) _ rfl).grew (Grew.refl _).drew) hg4
            have hg24 : Grew w2 w4 := (by repeat (first | exact Grew.refl _ | apply Grew.alloc | apply Grew.drew) : Grew w2 _).trans hg4
            have hb2 : w.heap.size < w2.heap.size := R2.out.lt
            have HA : Hid (RStatsAt l w w2.heap.size (w2.heap.size + 1) k y (f == 1) ⟨a0, a1, a2, a3, a4, a5⟩ P pk pc (.int .i64 y) (.int .i64 0) w4) := Lib.hid
              ⟨0, y, none, 0, [], [], Nat.zero_le _, by omega, rfl, rfl, hbk, ListR.nil, own_none _ _ _ _, rfl, HP2.out.grew hg24, R2.out.grew hg24, hbk.lt, HG2.out.trans hg24⟩
            clear hg4 hbk hg24 G2 HP2 R2 HG2
            go_wp2_with fail
            generalize w2.heap.size = b at *
            generalize hbv : (f == 1) = fb at *
            have HFb := Lib.hid hbv
            clear hbv
            go_loopw [15, 17] (fun yv i wr => RStatsAt l w b (b + 1) k y fb ⟨a0, a1, a2, a3, a4, a5⟩ P pk pc yv i wr) (fun _ i _ => k - (intOf i).toNat)
            case atStart => exact HA.out
            case round =>
              clear HA
              obtain ⟨j, q3, A3, c3, ls, css, hj, hq3, rfl, rfl, hb, hcs, ho, hst, hP, hR, hBs, hgw⟩ := hrel
              have HBb := Lib.hid hb
              have HCs := Lib.hid hcs
              have HO := Lib.hid ho
              have HSx := Lib.hid hst
              have HP := Lib.hid hP
              have HRr := Lib.hid hR
              have HBs := Lib.hid hBs
              have HGw := Lib.hid hgw
              clear hb hcs ho hst hP hR hBs hgw
              by_cases h : j < k
              · have HStt := Lib.hid (HSt.out q3 wr hq3 HGw.out)
                have HStep : Hid (∀ v, statsS (j + 1) (l.drop y, false) = v → (ls ++ [(statS (l.drop q3, false)).1], (statS (l.drop q3, false)).2) = v) := Lib.hid fun v hv => by
                  rw [← hv]
                  show _ = ((statsS j (l.drop y, false)).1 ++ [(statS (statsS j (l.drop y, false)).2).1], (statS (statsS j (l.drop y, false)).2).2)
                  rw [HSx.out]
                generalize statS (l.drop q3, false) = cr at *
                obtain ⟨tt, ss⟩ := cr
                go_wp2_with fail
                refine HStt.out.mono ?_
                rintro e w5 ⟨hg5, hcase⟩
                have G5 := Lib.hid hg5
                have R5 := Lib.hid (HRr.out.grew hg5)
                have H5 := Lib.hid (HGw.out.trans hg5)
                clear hg5
                rcases hcase with ⟨hbad, rfl⟩ | ⟨q4, hq4, hss, A4, k4, rfl, hT4⟩
                · have HZ : Hid (r = (askZ, 7)) := Lib.hid (by
                    have h2 : (statsS (j + 1) (l.drop y, false)).2.2 = true := by rw [← HStep.out _ rfl]; exact hbad
                    have h3 := statsS_stay (l.drop y, false) (j + 1) (k - (j + 1)) h2
                    rw [show j + 1 + (k - (j + 1)) = k by omega] at h3
                    have h4 := HTail.out (statsS k (l.drop y, false)).1 (statsS k (l.drop y, false)).2.1 (statsS k (l.drop y, false)).2.2 rfl
                    rw [if_pos (Or.inl h3)] at h4
                    exact h4)
                  clear hbad
                  have d0 := R5.out.cell 0
                  have d1 := R5.out.cell 1
                  have d2 := R5.out.cell 2
                  have d3 := R5.out.cell 3
                  have d4 := R5.out.cell 4
                  have d5 := R5.out.cell 5
                  have d6 := R5.out.cell 6
                  have d7 := R5.out.cell 7
                  have d8 := R5.out.cell 8
                  have z0 := R5.out.thaw 0
                  have z1 := R5.out.thaw 1
                  have z2 := R5.out.thaw 2
                  have z3 := R5.out.thaw 3
                  have z4 := R5.out.thaw 4
                  have z5 := R5.out.thaw 5
                  have z6 := R5.out.thaw 6
                  have z7 := R5.out.thaw 7
                  have z8 := R5.out.thaw 8
                  simp [zeroCs] at d0 d1 d2 d3 d4 d5 d6 d7 d8
                  have hltr := R5.out.lt
                  go_wp2
                  refine bodyPost_ret (v := .tuple #[.agg #[.slice none 0 0, .bool false, .int .i64 0, .int .i64 0, .int .i64 0, .int .i64 0, .int .i64 0, .int .i64 0, .slice none 0 0], .int .i64 7]) (by simp [results, Try.results31, go_sem, d0, d1, d2, d3, d4, d5, d6, d7, d8, hltr]) rfl ?_
                  rw [HZ.out]
                  refine ⟨_, rfl, ⟨none, 0, none, 0, rfl, ⟨[], ListR.nil, Or.inl rfl⟩, Or.inl rfl⟩, ?_⟩
                  exact (((((((((((Turns.refl _ w.heap.size).set 0 _).set 1 _).set 2 _).set 3 _).set 4 _).set 5 _).set 6 _).set 7 _).set 8 _).below H5.out (Nat.le_refl _)).alloc _
                · have HT4 := Lib.hid hT4
                  have HSs := Lib.hid hss
                  have hsz3 : b + 1 ≤ w5.heap.size := Nat.le_trans HBs.out G5.out.size
                  have HB4 := Lib.hid ((HBb.out.grew G5.out).alloc (.cells #[.int .i64 tt.rows, .slice A4 tt.cols.length k4] 97))
                  have HO4 := Lib.hid (own_alloc (own_grew HO.out G5.out) (.cells #[.int .i64 tt.rows, .slice A4 tt.cols.length k4] 97))
                  have e0 := (HBb.out.grew G5.out).cell 0
                  have y0 := (HBb.out.grew G5.out).thaw 0
                  have hltb := (HBb.out.grew G5.out).lt
                  simp [askCs] at e0
                  clear hT4 hss
                  have hrow : ∀ i, (Value.slice A3 j c3).ownBlock = some i → b + 1 ≤ i := own_base HO.out
                  go_wp2_with (at_builtin; refine wpList_appB rfl (.tmp 113) (.tmp 115) 35 97 2 rfl (b + 1) (.agg #[.int .i64 0, .slice none 0 0]) 32 Try.underlying35 infoT rfl (by decide) (by decide) _ j _ rfl (own_alloc HO4.out _) _ 1 1 [.int .i64 tt.rows, .slice A4 tt.cols.length k4] rfl rfl (row_new _ _ _ #[.int .i64 tt.rows, .slice A4 tt.cols.length k4] (by simp)) (by simp; exact ⟨rfl, rfl⟩) (by omega) (by simp; omega) ?_; intro A6 c6 w6 ho6 hg6; have HO6 := Lib.hid ho6; have HG6 := Lib.hid hg6; have B6 := Lib.hid ((HB4.out.alloc _).grown hg6 (fun e => by have := hrow b e; omega)); have f1 := B6.out.cell 0; have x1 := B6.out.thaw 0; simp [askCs] at f1; clear ho6 hg6)
                  have hTs : Turns w6 (w6.setCell ⟨b, 0, none⟩ (.slice A6 (j + 1) c6)) b := (Turns.refl w6 b).set 0 _
                  have K1 : ∀ e A xs, e = 3 ∨ e = 101 → TRow (b + 1) w5 e A xs → TRow (b + 1) (w6.setCell ⟨b, 0, none⟩ (.slice A6 (j + 1) c6)) e A xs := fun e A xs he h =>
                    (((h.grew ((Grew.refl w5).alloc _)).grew ((Grew.refl _).alloc _)).grown (own_alloc HO4.out _) (by rcases he with rfl | rfl <;> decide) HG6.out).turns hTs (by omega)
                  go_wp2
                  refine ⟨⟨j + 1, q4, A6, c6, ls ++ [tt], css ++ [[.int .i64 tt.rows, .slice A4 tt.cols.length k4]], by omega, hq4, by go_num, rfl, ?_, ?_, ?_, ?_, ?_, ?_, ?_, ?_⟩, by simp only [intOf]; omega⟩
                  · have h := B6.out.set 0 (.slice A6 (j + 1) c6)
                    simpa [askCs] using h
                  · exact (HCs.out.map (fun x cs h => h.map (fun e A xs he h => K1 e A xs he (h.grew G5.out)))).snoc ⟨A4, k4, rfl, HT4.out.map (fun e A xs he h => K1 e A xs he (h.low HBs.out))⟩ rfl
                  · have e : (css ++ [[Value.int .i64 tt.rows, Value.slice A4 tt.cols.length k4]]).flatten = css.flatten ++ [Value.int .i64 tt.rows, Value.slice A4 tt.cols.length k4] := by simp
                    rw [e]
                    exact own_turns HO6.out hTs (by omega)
                  · rw [← HStep.out _ rfl, HSs.out]
                  · exact (((((HP.out.grew G5.out).grew ((Grew.refl _).alloc _)).grew ((Grew.refl _).alloc _)).grown (own_alloc HO4.out _) (by decide) HG6.out)).apart hTs B6.out (by decide)
                  · exact (((R5.out.alloc _).alloc _).grown HG6.out (fun e => by have := hrow _ e; omega)).turns hTs (by omega)
                  · have h1 := hTs.size
                    have h2 := HG6.out.size
                    simp at h2
                    omega
                  · exact hTs.below ((((H5.out.alloc _).alloc _)).grown HG6.out (fun i hi => by have := hrow i hi; omega)) (by omega)
              · obtain rfl : j = k := by omega
                have hcl := statsS_len j (l.drop y, false)
                rw [HSx.out] at hcl
                have HCl := Lib.hid hcl
                have HTl := Lib.hid (HTail.out ls (l.drop q3) false HSx.out)
                clear hcl
                by_cases hend : q3 = l.length
                · have HZ : Hid (r = (⟨ls, fb, ⟨a0, a1, a2, a3, a4, a5⟩, pk⟩, 0)) := Lib.hid (by
                    have h1 := HTl.out
                    rw [if_neg (by rw [hend]; simp)] at h1
                    rw [h1, ← HFb.out]
                    rfl)
                  have en : ((q3 : Int) != (l.length : Int)) = false := by simp; omega
                  clear hend
                  have d0 := HRr.out.cell 0
                  have d1 := HRr.out.cell 1
                  have d2 := HRr.out.cell 2
                  have d3 := HRr.out.cell 3
                  have d4 := HRr.out.cell 4
                  have d5 := HRr.out.cell 5
                  have d6 := HRr.out.cell 6
                  have d7 := HRr.out.cell 7
                  have d8 := HRr.out.cell 8
                  have z0 := HRr.out.thaw 0
                  have z1 := HRr.out.thaw 1
                  have z2 := HRr.out.thaw 2
                  have z3 := HRr.out.thaw 3
                  have z4 := HRr.out.thaw 4
                  have z5 := HRr.out.thaw 5
                  have z6 := HRr.out.thaw 6
                  have z7 := HRr.out.thaw 7
                  have z8 := HRr.out.thaw 8
                  simp [zeroCs] at d0 d1 d2 d3 d4 d5 d6 d7 d8
                  have e0 := HBb.out.cell 0
                  have e1 := HBb.out.cell 1
                  have e2 := HBb.out.cell 2
                  have e3 := HBb.out.cell 3
                  have e4 := HBb.out.cell 4
                  have e5 := HBb.out.cell 5
                  have e6 := HBb.out.cell 6
                  have e7 := HBb.out.cell 7
                  have e8 := HBb.out.cell 8
                  simp [askCs] at e0 e1 e2 e3 e4 e5 e6 e7 e8
                  have hltr := HRr.out.lt
                  have hltb := HBb.out.lt
                  go_wp2
                  have hTT : ∀ wF, Turns wr wF w.heap.size → AskR (TRow w.heap.size wF) ⟨ls, fb, ⟨a0, a1, a2, a3, a4, a5⟩, pk⟩ (.agg #[.slice A3 j c3, .bool fb, .int .i64 a0, .int .i64 a1, .int .i64 a2, .int .i64 a3, .int .i64 a4, .int .i64 a5, .slice P pk.length pc]) ∧ Grew w wF := fun wF hT => by
                    have e := HCl.out
                    refine ⟨⟨A3, c3, P, pc, by simp only [e], ⟨css, HCs.out.map (fun x cs h => h.map (fun e A xs _ h => (h.turns hT (by omega)).low (by omega))), ((TRow.own HO.out).turns hT (by omega)).low (by omega)⟩, (HP.out.turns hT (by omega)).low (by omega)⟩, hT.below HGw.out (Nat.le_refl _)⟩
                  refine bodyPost_ret (v := .tuple #[.agg #[.slice A3 j c3, .bool fb, .int .i64 a0, .int .i64 a1, .int .i64 a2, .int .i64 a3, .int .i64 a4, .int .i64 a5, .slice P pk.length pc], .int .i64 0]) (by simp [results, Try.results31, go_sem, d0, d1, d2, d3, d4, d5, d6, d7, d8]) rfl ?_
                  rw [HZ.out]
                  exact ⟨_, rfl, hTT _ ((((((((((Turns.refl wr w.heap.size).set 0 _).set 1 _).set 2 _).set 3 _).set 4 _).set 5 _).set 6 _).set 7 _).set 8 _)⟩
                · have HZ : Hid (r = (askZ, 7)) := Lib.hid (by
                    have h1 := HTl.out
                    rw [if_pos (Or.inr (by rw [List.length_drop]; omega))] at h1
                    exact h1)
                  have en : ((q3 : Int) != (l.length : Int)) = true := by simp; omega
                  clear hend
                  have d0 := HRr.out.cell 0
                  have d1 := HRr.out.cell 1
                  have d2 := HRr.out.cell 2
                  have d3 := HRr.out.cell 3
                  have d4 := HRr.out.cell 4
                  have d5 := HRr.out.cell 5
                  have d6 := HRr.out.cell 6
                  have d7 := HRr.out.cell 7
                  have d8 := HRr.out.cell 8
                  have z0 := HRr.out.thaw 0
                  have z1 := HRr.out.thaw 1
                  have z2 := HRr.out.thaw 2
                  have z3 := HRr.out.thaw 3
                  have z4 := HRr.out.thaw 4
                  have z5 := HRr.out.thaw 5
                  have z6 := HRr.out.thaw 6
                  have z7 := HRr.out.thaw 7
                  have z8 := HRr.out.thaw 8
                  simp [zeroCs] at d0 d1 d2 d3 d4 d5 d6 d7 d8
                  have hltr := HRr.out.lt
                  go_wp2
                  refine bodyPost_ret (v := .tuple #[.agg #[.slice none 0 0, .bool false, .int .i64 0, .int .i64 0, .int .i64 0, .int .i64 0, .int .i64 0, .int .i64 0, .slice none 0 0], .int .i64 7]) (by simp [results, Try.results31, go_sem, d0, d1, d2, d3, d4, d5, d6, d7, d8]) rfl ?_
                  rw [HZ.out]
                  refine ⟨_, rfl, ⟨none, 0, none, 0, rfl, ⟨[], ListR.nil, Or.inl rfl⟩, Or.inl rfl⟩, ?_⟩
                  exact ((((((((((Turns.refl _ w.heap.size).set 0 _).set 1 _).set 2 _).set 3 _).set 4 _).set 5 _).set 6 _).set 7 _).set 8 _).below HGw.out (Nat.le_refl _)
end Go.Proofs.Ytcokhgomibimcaa
