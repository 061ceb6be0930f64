/- Layer 5: the document's Check, and the law of which tables may be. Condition: tables that lie in memory that is there. -/
import Derived.Test.YtcokhgomibimcaaTab7
import Derived.Deep.DeepCutAuto
import Derived.Deep.RegionWith
namespace Go.Proofs.Ytcokhgomibimcaa
open Go.RowKit
attribute [local go_sem] more_cell more_frozen more_more more_setCell more_of_drew more_of_drewN lt_more le_more past_cell past_cell2 past_frozen past_frozen2 past_setCell past_setCell2 mid_cell mid_frozen mid_setCell
attribute [local go_sem ↓] Go.wp_at_zero Go.wp_at_succ

section
open Classical
variable {a : List Tb} {t : Tb}
theorem tab_name (h : nameB t.name = false) : tabE a t = 2 := by
  have : headE a t = 2 := by unfold headE; rw [if_pos (Or.inl h)]
  rw [tabE_head (by rw [this]; decide), this]
theorem tab_dup (h : ∃ y ∈ a, y.name = t.name) : tabE a t = 2 := by
  have : headE a t = 2 := by unfold headE; rw [if_pos (Or.inr h)]
  rw [tabE_head (by rw [this]; decide), this]
theorem head_in (h : nameB t.name = true) (h2 : ¬ ∃ y ∈ a, y.name = t.name) : headE a t = if t.cols.length = 0 ∨ 16 < t.cols.length ∨ 65536 < t.rows.length then 4 else colsE t.cols := by
  unfold headE
  rw [if_neg]
  rintro (h3 | h3)
  · rw [h] at h3; cases h3
  · exact h2 h3
theorem tab_len (h : nameB t.name = true) (h2 : ¬ ∃ y ∈ a, y.name = t.name) (h3 : t.cols.length < 1 ∨ 16 < t.cols.length ∨ 65536 < t.rows.length) : tabE a t = 4 := by
  have : headE a t = 4 := by rw [head_in h h2, if_pos (by omega)]
  rw [tabE_head (by rw [this]; decide), this]
theorem tab_cols (h : nameB t.name = true) (h2 : ¬ ∃ y ∈ a, y.name = t.name) (h3 : ¬ (t.cols.length < 1 ∨ 16 < t.cols.length ∨ 65536 < t.rows.length)) (h4 : ¬ colsE t.cols = 0) : tabE a t = colsE t.cols := by
  have : headE a t = colsE t.cols := by rw [head_in h h2, if_neg (by omega)]
  rw [tabE_head (by rw [this]; exact h4), this]
theorem tab_row (h : nameB t.name = true) (h2 : ¬ ∃ y ∈ a, y.name = t.name) (h3 : ¬ (t.cols.length < 1 ∨ 16 < t.cols.length ∨ 65536 < t.rows.length)) (h4 : colsE t.cols = 0) (r : List Vl) (hr : r ∈ t.rows) (h5 : ¬ fitB (t.cols.map Cl.kind) r) : tabE a t = 3 :=
  tabE_row (by rw [head_in h h2, if_neg (by omega), h4]) r hr h5
theorem tab_good (h : nameB t.name = true) (h2 : ¬ ∃ y ∈ a, y.name = t.name) (h3 : ¬ (t.cols.length < 1 ∨ 16 < t.cols.length ∨ 65536 < t.rows.length)) (h4 : colsE t.cols = 0) (h5 : ∀ r ∈ t.rows, fitB (t.cols.map Cl.kind) r) : tabE a t = 0 :=
  tabE_good (by rw [head_in h h2, if_neg (by omega), h4]) h5
end
def RCheckAt (w : World) (db : List Tb) (i : Value) (wr : World) : Prop := ∃ j : Nat, j ≤ db.length ∧ i = .int .i64 j ∧ Grew w wr ∧ ∀ i, i < j → tabE (db.take i) (db.getD i default) = 0
def RRowsAt (w : World) (g : Nat) (cs : Array Value) (ks : List Int) (rows : List (List Vl)) (i : Value) (wr : World) : Prop := ∃ j : Nat, j ≤ rows.length ∧ i = .int .i64 j ∧ Grew w wr ∧ Blok wr g 80 cs ∧ ∀ i (hi : i < rows.length), i < j → fitB ks rows[i]
set_option maxHeartbeats 4000000 in
set_option maxRecDepth 100000 in
theorem rcheck_any (db : List Tb) (hd : TbsOk db) (A : Option Addr) (k : Nat) (hk : db.length ≤ k) (w : World) (ra : TbsR (PRow w) A db) :
    Gives Try.prog 57 #[.slice A db.length k] w (.int .i64 (checkE db)) := by
  unfold Gives
  have hlen := hd.1
  have HO := Lib.hid hd.2
  have RA := Lib.hid ra
  clear ra hd
  by_cases h16 : 16 < db.length
  · have h16' : (16 : Int) < db.length := by omega
    have hE : checkE db = 4 := by unfold checkE; rw [if_pos h16]
    rw [hE]
    clear hE
    go_enter Try.func57, Try.ntmps57
    go_wp2
    go_ret
    exact ⟨rfl, by (show Grew _ _; repeat (first | exact Grew.refl _ | refine Grew.alloc ?_ _ | refine Grew.drew ?_ | refine Grew.more ?_ _))⟩
  have h16' : (db.length : Int) ≤ 16 := by omega
  have HE : Hid (checkE db = firstE (fun i => tabE (db.take i) (db.getD i default)) db.length) := Lib.hid (by unfold checkE; rw [if_neg h16])
  generalize checkE db = E at *
  go_enter Try.func57, Try.ntmps57
  go_wp2
  clear h16'
  go_loopw [3] (fun i wr => RCheckAt w db i wr) (fun i _ => db.length - (intOf i).toNat)
  case atStart => exact ⟨0, Nat.zero_le _, rfl, Grew.refl w, fun i hi => by omega⟩
  case round =>
    obtain ⟨q, hq, rfl, hg, ha⟩ := hrel
    have HG := Lib.hid hg
    have HA := Lib.hid ha
    clear hg ha
    by_cases h : q < db.length
    · obtain ⟨b, o, C, k2, B, j2, rfl, hk2, hj2, hcl, hrw, ⟨hb, c0, c1, c2⟩⟩ := tbsR_at (RA.out.grew HG.out) h
      have hto := HO.out _ (List.getElem_mem h)
      have HD := getD_of h default
      have HBad : Hid (∀ e, tabE (db.take q) (db.getD q default) = e → ¬ e = 0 → E = e) := Lib.hid fun e he hn => by rw [HE.out]; exact firstE_at HA.out he hn h
      have HGd : Hid (tabE (db.take q) (db.getD q default) = 0 → ∀ i, i < q + 1 → tabE (db.take i) (db.getD i default) = 0) := Lib.hid fun hf => first_next HA.out hf
      rw [HD] at HBad HGd
      have hlen2 : (db.take q).length = q := by rw [List.length_take]; omega
      obtain ⟨Cf, kf, Bf, jf, tw, htw, _, _, _, hff⟩ := rfind_any (db.take q) q hlen2 (by unfold maxLen; omega) db[q].name _ k wr ((RA.out.grew HG.out).take q)
      have HFi := Lib.hid hff
      have HTw := Lib.hid htw
      have HCo : Hid (∀ W, Grew wr W → Gives Try.prog 124 #[.slice C db[q].cols.length k2] W (.int .i64 (colsE db[q].cols))) := Lib.hid fun W hW => rcols_any _ C k2 _ rfl hto.2.1.1 W (hcl.grew hW)
      have HRo : Hid (∀ (r : List Vl) (B' : Option Addr) (j' : Nat) (t : Bool), r.length ≤ 140737488355328 → (t = true ↔ fitB (db[q].cols.map Cl.kind) r) → ∀ W, Grew wr W → VlsR (PRow W) B' r → Gives Try.prog 125 #[tbV db[q] C k2 B j2, .slice B' r.length j'] W (.bool t)) := Lib.hid fun r B' j' t hr ht W hW hv =>
        rrow_any db[q] r B' B C j' k2 j2 hr hto.2.1.1 t ht W hv (hcl.grew hW)
      obtain ⟨tb, htb⟩ : ∃ tb, nameB db[q].name = tb := ⟨_, rfl⟩
      have HNa : Hid (∀ W, Gives Try.prog 123 #[.string db[q].name] W (.bool tb)) := Lib.hid fun W => by rw [← htb]; exact rname_any _ _
      have HTb := Lib.hid htb
      have HRW := Lib.hid hrw
      have hrl := hto.2.2.1
      have hcl1 := hto.2.1.1
      have HRO := Lib.hid hto.2.2.2
      have hqk : q ≤ k := by omega
      obtain ⟨te, hte⟩ : ∃ te, tabE (db.take q) db[q] = te := ⟨_, rfl⟩
      have HTE := Lib.hid hte
      rw [hte] at HBad HGd
      clear hto HD hlen2 hcl hrw hk2 hj2 htb hff htw hte HA
      generalize hft : findT (db.take q) db[q].name = ft at *
      clear hft
      generalize hah : db.take q = ah at *
      clear hah
      generalize db[q] = t at *
      obtain ⟨name, cols, rows⟩ := t
      unfold tbV at HRo HFi
      simp only at *
      go_upto_region 7 with fail
      obtain ⟨W1, hW1⟩ : ∃ W1 : World, W1 = wr.alloc (.cells #[.string name, .slice C cols.length k2, .slice B rows.length j2] 80) := ⟨_, rfl⟩
      obtain ⟨g4, hg4⟩ : ∃ g4, g4 = wr.heap.size := ⟨_, rfl⟩
      have hbk := Blok.new wr 80 #[.string name, .slice C cols.length k2, .slice B rows.length j2] g4 hg4
      have hg1 := (Grew.refl wr).alloc (.cells #[.string name, .slice C cols.length k2, .slice B rows.length j2] 80)
      rw [← hW1] at hbk hg1 ⊢
      rw [← hg4]
      have HBK := Lib.hid hbk
      have d0 := hbk.cell 0
      have dl := hbk.lt
      simp at d0
      have HG1 : Hid (Grew wr W1) := Lib.hid hg1
      clear hbk hg1 hW1 c0 c1 c2 hb hg4
      go_cut [6] (fun t6 wx => t6 = .bool tw ∧ Grew W1 wx)
      case first =>
        go_region_with ((go_at_call 59; (with_reducible refine (HFi.out _ (HG1.out.trans (by (show Grew _ _; repeat (first | exact Grew.refl _ | refine Grew.alloc ?_ _ | refine Grew.drew ?_ | refine Grew.more ?_ _))))).grows.mono ?_); rintro e w2 ⟨rfl, hg2⟩; have HG2 := Lib.hid hg2; try (have bk := (Blok.new _ 80 #[.string ⟨#[]⟩, .slice none 0 0, .slice none 0 0] _ rfl).grew hg2; have z0 := bk.cell 0; have z1 := bk.cell 1; have z2 := bk.cell 2; have zl := bk.lt; have y0 := bk.thaw 0; have y1 := bk.thaw 1; have y2 := bk.thaw 2; simp at z0 z1 z2 y0 y1 y2 zl; clear bk); clear hg2))
        all_goals go_wp2_with fail
        all_goals go_meet
        all_goals refine ⟨rfl, ?_⟩
        all_goals (repeat (first | exact Grew.refl _ | refine Grew.trans ?_ HG2.out | refine Grew.setCell ?_ (by simp) _ | refine Grew.alloc ?_ _ | refine Grew.drew ?_ | refine Grew.more ?_ _))
      case rest =>
        obtain ⟨rfl, hgw⟩ := hcut
        have HBK := Lib.hid (HBK.out.grew hgw)
        have HG2 : Hid (Grew wr wc) := Lib.hid (HG1.out.trans hgw)
        have d0 := HBK.out.cell 0
        have d1 := HBK.out.cell 1
        have d2 := HBK.out.cell 2
        have dl := HBK.out.lt
        simp at d0 d1 d2
        clear hgw HG1
        obtain ⟨wp, hwp⟩ : ∃ wp : World, wp = wc := ⟨_, rfl⟩
        subst hwp
        cases tb
        · obtain rfl := HBad.out 2 (by rw [← HTE.out]; exact tab_name HTb.out) (by decide)
          clear HBad HGd
          go_wp2_with (first | (go_at_call 123; (with_reducible refine (HNa.out _).grows.mono ?_); rintro e w2 ⟨rfl, hg2⟩; have HG3 := Lib.hid (HG.out.trans (HG2.out.trans hg2)); clear hg2))
          go_ret
          exact ⟨rfl, HG3.out⟩
        cases tw
        · have HDn : Hid (¬ ∃ y ∈ ah, y.name = name) := Lib.hid fun hx => by have := HTw.out.2 hx; cases this
          go_wp2_with fail
          refine (HNa.out _).grows.mono ?_
          rintro e w3 ⟨rfl, hg3⟩
          have HG3 : Hid (Grew wr w3) := Lib.hid (HG2.out.trans hg3)
          have HBK3 := Lib.hid (HBK.out.grew hg3)
          have f0 := HBK3.out.cell 0
          have f1 := HBK3.out.cell 1
          have f2 := HBK3.out.cell 2
          have fl := HBK3.out.lt
          simp at f0 f1 f2
          clear hg3 d0 d1 d2 dl HBK HG2 HNa HFi
          by_cases l0 : cols.length < 1
          · obtain rfl := HBad.out 4 (by rw [← HTE.out]; exact tab_len HTb.out HDn.out (Or.inl l0)) (by decide)
            have l0' : (cols.length : Int) < 1 := by omega
            clear HBad HGd
            go_wp2
            go_ret
            exact ⟨rfl, HG.out.trans HG3.out⟩
          have l0' : 1 ≤ (cols.length : Int) := by omega
          by_cases l1 : 16 < cols.length
          · obtain rfl := HBad.out 4 (by rw [← HTE.out]; exact tab_len HTb.out HDn.out (Or.inr (Or.inl l1))) (by decide)
            have l1' : (16 : Int) < cols.length := by omega
            clear HBad HGd
            go_wp2
            go_ret
            exact ⟨rfl, HG.out.trans HG3.out⟩
          have l1' : (cols.length : Int) ≤ 16 := by omega
          by_cases l2 : 65536 < rows.length
          · obtain rfl := HBad.out 4 (by rw [← HTE.out]; exact tab_len HTb.out HDn.out (Or.inr (Or.inr l2))) (by decide)
            have l2' : (65536 : Int) < rows.length := by omega
            clear HBad HGd
            go_wp2
            go_ret
            exact ⟨rfl, HG.out.trans HG3.out⟩
          have l2' : (rows.length : Int) ≤ 65536 := by omega
          have HLn : Hid (¬ (cols.length < 1 ∨ 16 < cols.length ∨ 65536 < rows.length)) := Lib.hid (by omega)
          obtain ⟨ce, hce⟩ : ∃ ce, colsE cols = ce := ⟨_, rfl⟩
          have HCE := Lib.hid hce
          rw [hce] at HCo
          clear hce
          go_wp2_with fail
          refine (HCo.out _ HG3.out).grows.mono ?_
          rintro e w4 ⟨rfl, hg4⟩
          have HG4 : Hid (Grew wr w4) := Lib.hid (HG3.out.trans hg4)
          have HBK4 := Lib.hid (HBK3.out.grew hg4)
          have q0 := HBK4.out.cell 0
          have q1 := HBK4.out.cell 1
          have q2 := HBK4.out.cell 2
          have ql := HBK4.out.lt
          simp at q0 q1 q2
          clear hg4 f0 f1 f2 fl HBK3 HG3 l0 l1 l2 l0' l1' l2'
          by_cases hc : ce = 0
          · have hc' : (ce != 0) = false := by simp [hc]
            obtain rfl := hc
            go_wp2
            clear hc'
            obtain ⟨wo, rfl⟩ : ∃ wo : World, wo = wr := ⟨_, rfl⟩
            go_loopw [7] (fun i wx => RRowsAt wo g4 #[.string name, .slice C cols.length k2, .slice B rows.length j2] (cols.map Cl.kind) rows i wx) (fun i _ => rows.length - (intOf i).toNat)
            case atStart => exact ⟨0, Nat.zero_le _, rfl, HG4.out, HBK4.out, fun i hi h => by omega⟩
            case round =>
              obtain ⟨p, hp, rfl, hg, hbk, ha⟩ := hrel
              have HG5 := Lib.hid hg
              have HA := Lib.hid ha
              have HBK5 := Lib.hid hbk
              have r0 := hbk.cell 0
              have r1 := hbk.cell 1
              have r2 := hbk.cell 2
              have rl := hbk.lt
              simp at r0 r1 r2
              clear hg ha hbk q0 q1 q2 ql
              by_cases hpr : p < rows.length
              · obtain ⟨b7, o7, B7, k7, rfl, hb7, hc7, hk7, hv7⟩ := rwsR_at (HRW.out.grew HG5.out) hpr
                obtain ⟨t, ht⟩ : ∃ t : Bool, (t = true ↔ fitB (cols.map Cl.kind) rows[p]) := by
                  by_cases h : fitB (cols.map Cl.kind) rows[p]
                  · exact ⟨true, by simp [h]⟩
                  · exact ⟨false, by simp [h]⟩
                have hrl7 := (HRO.out _ (List.getElem_mem hpr)).1
                have HF : Hid (∀ x, Gives Try.prog 125 #[.agg #[.string name, .slice C cols.length k2, .slice (some ⟨b7, o7, none⟩) rows.length j2], .slice B7 rows[p].length k7] (more wr x) (.bool t)) := Lib.hid fun x => HRo.out rows[p] B7 k7 t hrl7 ht _ (HG5.out.more x) (hv7.grew ((Grew.refl wr).more x))
                have HTB : Hid (t = false → te = 3) := Lib.hid fun hf => by
                  rw [← HTE.out]
                  refine tab_row HTb.out HDn.out HLn.out HCE.out _ (List.getElem_mem hpr) fun hb => ?_
                  have := ht.2 hb
                  rw [hf] at this; cases this
                have HTG : Hid (t = true → ∀ i (hi : i < rows.length), i < p + 1 → fitB (cols.map Cl.kind) rows[i]) := Lib.hid fun hf i hi hip => by
                  rcases Nat.lt_or_ge i p with h3 | h3
                  · exact HA.out i hi h3
                  · have : i = p := by omega
                    subst this; exact ht.1 hf
                clear ht hv7 HA HRo
                generalize rows[p] = r at *
                cases t
                · obtain rfl := HBad.out 3 (HTB.out rfl) (by decide)
                  clear HTB HTG HBad HGd
                  go_upto_region 17 with fail
                  refine wp_region_more (by kernel_rfl) (by kernel_rfl) ?_
                  repeat (go_big_quiet_step (((first | (go_at_call 125; exact (HF.out _).within)))))
                  refine wpQuiet_nil ?_
                  rintro _ ⟨z, rfl⟩
                  go_wp2
                  go_ret
                  exact ⟨rfl, (HG.out.trans HG5.out).more z⟩
                · have HFF := Lib.hid (HTG.out rfl)
                  clear HTB HTG HBad HGd
                  go_upto_region 17 with fail
                  refine wp_region_more (by kernel_rfl) (by kernel_rfl) ?_
                  repeat (go_big_quiet_step (((first | (go_at_call 125; exact (HF.out _).within)))))
                  refine wpQuiet_nil ?_
                  rintro _ ⟨z, rfl⟩
                  go_wp2
                  exact ⟨⟨p + 1, by omega, by go_num, HG5.out.more z, HBK5.out.more z, HFF.out⟩, by simp only [intOf]; omega⟩
              · obtain rfl : p = rows.length := by omega
                have HFF := Lib.hid (HGd.out (by rw [← HTE.out]; exact tab_good HTb.out HDn.out HLn.out HCE.out (all_rows fun i hi => HA.out i hi hi)))
                clear HBad HGd HA
                go_wp2
                exact ⟨⟨q + 1, by omega, by go_num, HG.out.trans HG5.out, HFF.out⟩, by simp only [intOf]; omega⟩
          · have hc' : (ce != 0) = true := by simp [hc]
            obtain rfl := HBad.out ce (by rw [← HTE.out, ← HCE.out]; exact tab_cols HTb.out HDn.out HLn.out (by rw [HCE.out]; exact hc)) hc
            clear HBad HGd
            go_wp2_with (first | (go_at_call 124; (with_reducible refine (HCo.out _ HG4.out).grows.mono ?_); rintro e w5 ⟨rfl, hg5⟩; have HG5 := Lib.hid (HG.out.trans (HG4.out.trans hg5)); clear hg5))
            go_ret
            exact ⟨rfl, HG5.out⟩
        · obtain rfl := HBad.out 2 (by rw [← HTE.out]; exact tab_dup (HTw.out.1 rfl)) (by decide)
          clear HBad HGd
          go_wp2_with (first | (go_at_call 123; (with_reducible refine (HNa.out _).grows.mono ?_); rintro e w2 ⟨rfl, hg2⟩; have HG3 := Lib.hid (HG.out.trans (HG2.out.trans hg2)); clear hg2))
          go_ret
          exact ⟨rfl, HG3.out⟩
    · obtain rfl : q = db.length := by omega
      obtain rfl : E = 0 := by rw [HE.out]; exact firstE_zero HA.out
      clear HE
      go_wp2
      go_ret
      exact ⟨rfl, HG.out⟩
end Go.Proofs.Ytcokhgomibimcaa
