/- Layer 5: schema.Check. Condition: tables that lie in memory that is there. -/
import Derived.Test.YtcokhgomibimcaaTab5
import Derived.WalkMore
namespace Go.Proofs.Ytcokhgomibimcaa
open Go.RowKit
attribute [local go_sem] more_cell more_frozen more_more more_setCell more_of_drew more_of_drewN lt_more le_more past_cell past_cell2 past_frozen past_frozen2 past_setCell past_setCell2 mid_cell mid_frozen mid_setCell
attribute [local go_sem ↓] Go.wp_at_zero Go.wp_at_succ

def CheckAt (w : World) (db : List Tb) (e i : Value) (wr : World) : Prop := ∃ j : Nat, j ≤ db.length ∧ i = .int .i64 j ∧ e = .int .i64 0 ∧ Grew w wr ∧ ∀ i, i < j → tabE (db.take i) (db.getD i default) = 0
def RowsAt (w : World) (ks : List Int) (A : Option Addr) (rows : List (List Vl)) (e i : Value) (wr : World) : Prop := ∃ j : Nat, j ≤ rows.length ∧ i = .int .i64 j ∧ e = .int .i64 0 ∧ Grew w wr ∧ Row wr A (iV ks) ∧ ∀ i (hi : i < rows.length), i < j → fitB ks rows[i]
section
open Classical
theorem tabE_head {a : List Tb} {t : Tb} (h : ¬ headE a t = 0) : tabE a t = headE a t := by unfold tabE; rw [if_neg h]
theorem tabE_good {a : List Tb} {t : Tb} (h : headE a t = 0) (h2 : ∀ r ∈ t.rows, fitB (t.cols.map Cl.kind) r) : tabE a t = 0 := by unfold tabE; rw [if_pos h, if_pos h2]
theorem tabE_row {a : List Tb} {t : Tb} (h : headE a t = 0) (r : List Vl) (hr : r ∈ t.rows) (h2 : ¬ fitB (t.cols.map Cl.kind) r) : tabE a t = 3 := by unfold tabE; rw [if_pos h, if_neg fun h3 => h2 (h3 r hr)]
end
theorem all_rows {rows : List (List Vl)} {p : List Vl → Prop} (h : ∀ i (hi : i < rows.length), p rows[i]) : ∀ r ∈ rows, p r := by
  intro r hr
  obtain ⟨i, hi, rfl⟩ := List.getElem_of_mem hr
  exact h i hi
set_option maxHeartbeats 2000000 in
set_option maxRecDepth 100000 in
theorem check_any (db : List Tb) (hd : TbsOk db) (A : Option Addr) (k : Nat) (hk : db.length ≤ k) (w : World) (ra : TbsR (PRow w) A db) :
    Gives Try.prog 56 #[.slice A db.length k] w (.int .i64 (checkE db)) := by
  unfold Gives
  have hlen := hd.1
  have HO := Lib.hid hd.2
  have RA := Lib.hid ra
  clear ra hd
  by_cases h16 : 16 < db.length
  · have h16' : (16 : Int) < db.length := by omega
    have hE : checkE db = 4 := by unfold checkE; rw [if_pos h16]
    rw [hE]
    clear hE
    go_enter Try.func56, Try.ntmps56
    go_wp2
    go_step3
    go_wp2
    try rw [Exit.noGoto_ret]
    go_ret
    exact ⟨rfl, by (show Grew _ _; repeat (first | exact Grew.refl _ | refine Grew.alloc ?_ _ | refine Grew.drew ?_ | refine Grew.more ?_ _))⟩
  have h16' : (db.length : Int) ≤ 16 := by omega
  have HE : Hid (checkE db = firstE (fun i => tabE (db.take i) (db.getD i default)) db.length) := Lib.hid (by unfold checkE; rw [if_neg h16])
  generalize checkE db = E at *
  go_enter Try.func56, Try.ntmps56
  go_wp2
  go_step3
  go_wp2
  go_step3
  go_wp2
  clear h16'
  go_loopw [3, 14] (fun e i wr => CheckAt w db e i wr) (fun _ i _ => db.length - (intOf i).toNat)
  case atStart => exact ⟨0, Nat.zero_le _, rfl, rfl, Grew.refl w, fun i hi => by omega⟩
  case round =>
    obtain ⟨q, hq, rfl, rfl, hg, ha⟩ := hrel
    have HG := Lib.hid hg
    have HA := Lib.hid ha
    clear hg ha
    by_cases h : q < db.length
    · obtain ⟨b, o, C, k2, B, j2, rfl, hk2, hj2, hcl, hrw, ⟨hb, c0, c1, c2⟩⟩ := tbsR_at (RA.out.grew HG.out) h
      have hto := HO.out _ (List.getElem_mem h)
      have HD := getD_of h default
      have HBad : Hid (∀ e, tabE (db.take q) (db.getD q default) = e → ¬ e = 0 → E = e) := Lib.hid fun e he hn => by rw [HE.out]; exact firstE_at HA.out he hn h
      have HGd : Hid (tabE (db.take q) (db.getD q default) = 0 → ∀ i, i < q + 1 → tabE (db.take i) (db.getD i default) = 0) := Lib.hid fun hf => first_next HA.out hf
      rw [HD] at HBad HGd
      have hlen2 : (db.take q).length = q := by rw [List.length_take]; omega
      have HH : Hid (∀ W, Grew wr W → Gives Try.prog 121 #[.slice (some ⟨b, o, none⟩) q k, tbV db[q] C k2 B j2] W (.int .i64 (headE (db.take q) db[q]))) := Lib.hid fun W hW =>
        head_any (db.take q) db[q] _ C B q k k2 j2 hlen2 (by unfold maxLen; omega) hto hk2 W ((RA.out.grew (HG.out.trans hW)).take q) (hcl.grew hW)
      have HT1 : Hid (¬ headE (db.take q) db[q] = 0 → tabE (db.take q) db[q] = headE (db.take q) db[q]) := Lib.hid tabE_head
      have HT2 : Hid (headE (db.take q) db[q] = 0 → (∀ r ∈ db[q].rows, fitB (db[q].cols.map Cl.kind) r) → tabE (db.take q) db[q] = 0) := Lib.hid tabE_good
      have HT3 : Hid (headE (db.take q) db[q] = 0 → ∀ r ∈ db[q].rows, ¬ fitB (db[q].cols.map Cl.kind) r → tabE (db.take q) db[q] = 3) := Lib.hid tabE_row
      have HCo : Hid (headE (db.take q) db[q] = 0 → db[q].cols.length ≤ 16) := Lib.hid fun h0 => by
        unfold headE at h0
        by_cases a1 : nameB db[q].name = false ∨ ∃ y ∈ db.take q, y.name = db[q].name
        · rw [if_pos a1] at h0; exact absurd h0 (by decide)
        · rw [if_neg a1] at h0
          by_cases a2 : db[q].cols.length = 0 ∨ 16 < db[q].cols.length ∨ 65536 < db[q].rows.length
          · rw [if_pos a2] at h0; exact absurd h0 (by decide)
          · omega
      have HKi : Hid (db[q].cols.length ≤ 16 → ∀ W, Grew wr W → Calls Try.prog 62 #[tbV db[q] C k2 B j2] W (KindsF W (db[q].cols.map Cl.kind))) := Lib.hid fun h16 W hW => kinds_any db[q] C B k2 j2 (by omega) W (hcl.grew hW)
      have HRW := Lib.hid hrw
      have hrl := hto.2.2.1
      have HRO := Lib.hid hto.2.2.2
      have hqk : q ≤ k := by omega
      clear hto HD hlen2 hcl hrw hk2 hj2
      generalize headE (db.take q) db[q] = he at *
      generalize tabE (db.take q) db[q] = te at *
      generalize hks : db[q].cols.map Cl.kind = ks at *
      generalize db[q] = t at *
      obtain ⟨name, cols, rows⟩ := t
      unfold tbV at HH HKi
      simp only at *
      go_upto_region 7 with fail
      obtain ⟨W1, hW1⟩ : ∃ W1 : World, W1 = wr.alloc (.cells #[.string name, .slice C cols.length k2, .slice B rows.length j2] 80) := ⟨_, rfl⟩
      have hbk := Blok.new wr 80 #[.string name, .slice C cols.length k2, .slice B rows.length j2] _ rfl
      have hg1 := (Grew.refl wr).alloc (.cells #[.string name, .slice C cols.length k2, .slice B rows.length j2] 80)
      rw [← hW1] at hbk hg1 ⊢
      have HBK := Lib.hid hbk
      have d0 := hbk.cell 0
      have d1 := hbk.cell 1
      have d2 := hbk.cell 2
      have dl := hbk.lt
      simp at d0 d1 d2
      have HG1 : Hid (Grew wr W1) := Lib.hid hg1
      have HGW : Hid (∀ x, Grew wr (more W1 x)) := Lib.hid fun x => hg1.more x
      clear hbk hg1 hW1 c0 c1 c2 hb HA
      by_cases h0 : he = 0
      · have h0' : (he != 0) = false := by simp [h0]
        have hc16 := HCo.out h0
        have HKi2 := Lib.hid (HKi.out hc16)
        obtain rfl := h0
        clear HT1 HCo HKi
        refine wp_region_more (by kernel_rfl) (by kernel_rfl) ?_
        repeat (go_big_quiet_step (((first | (go_at_call 121; exact (HH.out _ (HGW.out _)).within)))))
        refine wpQuiet_nil ?_
        rintro _ ⟨z, rfl⟩
        go_wp2_with fail
        refine (HKi2.out _ (HGW.out z)).mono ?_
        rintro e w3 ⟨A5, k5, rfl, hg3, hr3⟩
        have HB3 := Lib.hid ((HBK.out.more z).grew hg3)
        have f2 := HB3.out.cell 2
        have fl := HB3.out.lt
        simp at f2
        have HG3 : Hid (Grew w w3) := Lib.hid (HG.out.trans ((HGW.out z).trans hg3))
        have HG4 : Hid (Grew wr w3) := Lib.hid ((HGW.out z).trans hg3)
        have HR3 := Lib.hid hr3
        clear hks hg3 hr3 d0 d1 d2 dl h0' HKi2 HH
        obtain ⟨wo, rfl⟩ : ∃ wo : World, wo = wr := ⟨_, rfl⟩
        go_wp2
        go_loopw [3, 31] (fun e i wr => RowsAt wo ks A5 rows e i wr) (fun _ i _ => rows.length - (intOf i).toNat)
        case atStart => exact ⟨0, Nat.zero_le _, rfl, rfl, HG4.out, HR3.out, fun i hi h => by omega⟩
        case round =>
          obtain ⟨p, hp, rfl, rfl, hg, hr, ha⟩ := hrel
          have HG5 := Lib.hid hg
          have HA := Lib.hid ha
          have HR5 := Lib.hid hr
          clear hg ha hr
          by_cases hpr : p < rows.length
          · obtain ⟨b7, o7, B7, k7, rfl, hb7, hc7, hk7, hv7⟩ := rwsR_at (HRW.out.grew HG5.out) hpr
            obtain ⟨t, ht⟩ : ∃ t : Bool, (t = true ↔ fitB ks rows[p]) := by
              by_cases h : fitB ks rows[p]
              · exact ⟨true, by simp [h]⟩
              · exact ⟨false, by simp [h]⟩
            have hrl7 := (HRO.out _ (List.getElem_mem hpr)).1
            have HF : Hid (∀ W, Grew wr W → Gives Try.prog 122 #[.slice B7 rows[p].length k7, .slice A5 ks.length k5] W (.bool t)) := Lib.hid fun W hW => fits_any rows[p] ks B7 A5 k7 k5 hrl7 t ht W (hv7.grew hW) (HR5.out.grew hW)
            have HTB : Hid (t = false → te = 3) := Lib.hid fun hf => by
              refine HT3.out (by trivial) _ (List.getElem_mem hpr) fun hb => ?_
              have := ht.2 hb
              rw [hf] at this; cases this
            have HTG : Hid (t = true → ∀ i (hi : i < rows.length), i < p + 1 → fitB ks rows[i]) := Lib.hid fun hf i hi hip => by
              rcases Nat.lt_or_ge i p with h3 | h3
              · exact HA.out i hi h3
              · have : i = p := by omega
                subst this; exact ht.1 hf
            clear ht hv7 HA
            generalize rows[p] = r at *
            cases t
            · obtain rfl := HBad.out 3 (HTB.out rfl) (by decide)
              clear HTB HTG HBad HGd
              go_wp2_with (first | (go_at_call 122; (with_reducible refine (HF.out _ (Grew.refl _)).grows.mono ?_); rintro e w6 ⟨rfl, hg6⟩; have HG6 := Lib.hid (HG.out.trans (HG5.out.trans hg6)); clear hg6))
              try rw [Exit.noGoto_ret]
              go_ret
              exact ⟨rfl, HG6.out⟩
            · have HFF := Lib.hid (HTG.out rfl)
              clear HTB HTG HBad HGd
              go_wp2_with (first | (go_at_call 122; (with_reducible refine (HF.out _ (Grew.refl _)).grows.mono ?_); rintro e w6 ⟨rfl, hg6⟩; have HG6 := Lib.hid (HG5.out.trans hg6); have HR6 := Lib.hid (HR5.out.grew hg6); clear hg6))
              exact ⟨⟨p + 1, by omega, by go_num, rfl, HG6.out, HR6.out, HFF.out⟩, by simp only [intOf]; omega⟩
          · obtain rfl : p = rows.length := by omega
            have HFF := Lib.hid (HGd.out (HT2.out (by trivial) (all_rows fun i hi => HA.out i hi hi)))
            clear HBad HGd HT2 HT3 HA
            go_wp2
            exact ⟨⟨q + 1, by omega, by go_num, rfl, HG.out.trans HG5.out, HFF.out⟩, by simp only [intOf]; omega⟩
      · have h0' : (he != 0) = true := by simp [h0]
        obtain rfl := HBad.out he (HT1.out h0) h0
        clear HT1 HT2 HT3 HCo HKi HBad HGd
        refine wp_region_more (by kernel_rfl) (by kernel_rfl) ?_
        repeat (go_big_quiet_step (((first | (go_at_call 121; exact (HH.out _ (HGW.out _)).within)))))
        refine wpQuiet_nil ?_
        rintro _ ⟨z, rfl⟩
        go_wp2
        try rw [Exit.noGoto_ret]
        go_ret
        exact ⟨rfl, HG.out.trans (HGW.out z)⟩
    · obtain rfl : q = db.length := by omega
      obtain rfl : E = 0 := by rw [HE.out]; exact firstE_zero HA.out
      clear HE
      go_wp2
      try rw [Exit.noGoto_ret]
      go_ret
      exact ⟨rfl, HG.out⟩
end Go.Proofs.Ytcokhgomibimcaa
