/- Layer 5: the law of what is found by names, and of tables without a row. Condition: tables that lie in memory that is there. -/
import Derived.Test.YtcokhgomibimcaaTab16
import Derived.Test.YtcokhgomibimcaaLawTab
namespace Go.Proofs.Ytcokhgomibimcaa
open Go.RowKit
attribute [local go_sem] more_cell more_frozen more_more more_setCell more_of_drew more_of_drewN lt_more le_more past_cell past_cell2 past_frozen past_frozen2 past_setCell past_setCell2 mid_cell mid_frozen mid_setCell
attribute [local go_sem ↓] Go.wp_at_zero Go.wp_at_succ

theorem findT_at2 {l : List Tb} {n : ByteArray} {q : Nat} (h : Idx (l.map Tb.name) n (q : Int)) : ∃ hq : q < l.length, findT l n = l[q] := by
  rcases h with ⟨i, hi, hq, h1, h2⟩ | ⟨h, _⟩
  · have : q = i := by omega
    subst this
    have hq' : q < l.length := by simpa using hq
    exact ⟨hq', findT_at hq' (by simpa using h1) fun j hj hji => by simpa using h2 j hji⟩
  · omega
def KLoopAt (w : World) (g : Nat) (cs : Array Value) (A : Option Addr) (ks : List Int) (n : Nat) (i : Value) (wr : World) : Prop := ∃ q : Nat, q ≤ n ∧ i = .int .i64 q ∧ Grew w wr ∧ Blok wr g 80 cs ∧ Row wr A (iV ks)
set_option maxHeartbeats 4000000 in
set_option maxRecDepth 100000 in
theorem schemaFinds_walk (db : List Tb) (hd : TbsOk db) (A : Option Addr) (k : Nat) (hk : db.length ≤ k) (tn cn : ByteArray) (htn : tn.size ≤ 140737488355328) (hcn : cn.size ≤ 140737488355328) (i : Int) (w : World) (ra : TbsR (PRow w) A db) :
    Gives Try.prog 10 #[.slice A db.length k, .string tn, .string cn, .int .i64 i] w (.bool true) := by
  have HM := Lib.hid (much5_any db hd A k w ra)
  have RA := Lib.hid ra
  have HO := Lib.hid hd
  clear ra
  obtain ⟨m, hm⟩ : ∃ m, db.length = m := ⟨_, rfl⟩
  have HL := Lib.hid hm
  rw [hm] at hk HM ⊢
  clear hm hd
  unfold Gives
  go_enter Try.func10, Try.ntmps10
  go_wp2_with fail
  refine HM.out.mono ?_
  rintro e w1 ⟨tm, rfl, hg1, hgood⟩
  have HG1 := Lib.hid hg1
  have HGood := Lib.hid hgood
  clear hg1 hgood HM
  cases tm
  rotate_left
  · go_wp2_with (first | (go_at_call 54; (with_reducible refine (live5_any _).grows.mono ?_); rintro e w5 ⟨rfl, hg5⟩; have HG5 := Lib.hid (HG1.out.trans hg5); clear hg5))
    go_ret
    exact ⟨rfl, HG5.out⟩
  by_cases hlong : 200 < tn.size + cn.size
  · have hlong' : (200 : Int) < (tn.size : Int) + cn.size := by omega
    go_wp2_with (first | (go_at_call 54; (with_reducible refine (live5_any _).grows.mono ?_); rintro e w5 ⟨rfl, hg5⟩; have HG5 := Lib.hid (HG1.out.trans hg5); clear hg5))
    go_ret
    exact ⟨rfl, HG5.out⟩
  have hlong' : (tn.size : Int) + cn.size ≤ 200 := by omega
  obtain ⟨g1, g2, g3⟩ := HGood.out rfl
  have hm18 : m ≤ 18 := by rw [← HL.out]; exact g1
  have hsz : ∀ t ∈ db, t.cols.length + t.rows.length ≤ 400 := fun t ht => Nat.le_trans (szT_each ht) g2
  have hst : sizeT db ≤ 400 := Nat.le_trans (sizeT_szT db) g2
  obtain ⟨z, hz⟩ := idx_exists (db.map Tb.name) tn
  obtain ⟨Cf, kf, Bf, jf, t, ht, hTb, hin, hno, hRF⟩ := rfind_any db m HL.out (by unfold maxLen; omega) tn A k w RA.out
  have hFi : Hid (∀ W, Grew w W → Calls Try.prog 58 #[.slice A m k, .string tn] W (FindF W (findT db tn) t)) := Lib.hid fun W hW => find_any db m HL.out (by unfold maxLen; omega) (fun y hy => by have := hsz y hy; omega) tn t ht A k W (RA.out.grew hW)
  have HRF := Lib.hid hRF
  have hF : (findT db tn).cols.length + (findT db tn).rows.length ≤ 400 ∧ RwsOk (findT db tn).rows := by
    cases t
    · rw [hno rfl]; exact ⟨by simp, by simp, by simp⟩
    · exact ⟨hsz _ (hin rfl), (HO.out.2 _ (hin rfl)).2.2⟩
  obtain ⟨zc, hzc⟩ := idx_exists ((findT db tn).cols.map Cl.name) cn
  obtain ⟨cz, ct, hcv⟩ : ∃ (cz : Int) (ct : Bool), colV zc = .tuple #[.int .i64 cz, .bool ct] := by
    unfold colV
    by_cases h : zc < 0
    · exact ⟨_, _, if_pos h⟩
    · exact ⟨_, _, if_neg h⟩
  have HCo : Hid (∀ W, Grew w W → Gives Try.prog 60 #[tbV (findT db tn) Cf kf Bf jf, .string cn] W (.tuple #[.int .i64 cz, .bool ct])) := Lib.hid fun W hW => by
    rw [← hcv]
    obtain ⟨_, _, _, _, hcs, _, _, hcl, _⟩ := hTb
    simp only [List.cons.injEq, Value.slice.injEq] at hcs
    obtain ⟨_, ⟨rfl, _, rfl⟩, _⟩ := hcs
    exact col_any _ _ _ _ _ (by omega) cn zc hzc W (hcl.grew hW)
  have HRCo : Hid (∀ W, Grew w W → Gives Try.prog 61 #[tbV (findT db tn) Cf kf Bf jf, .string cn] W (.tuple #[.int .i64 cz, .bool ct])) := Lib.hid fun W hW => by
    rw [← hcv]
    obtain ⟨_, _, _, _, hcs, _, _, hcl, _⟩ := hTb
    simp only [List.cons.injEq, Value.slice.injEq] at hcs
    obtain ⟨_, ⟨rfl, _, rfl⟩, _⟩ := hcs
    exact rcol_any _ _ _ _ _ (by omega) cn zc hzc W (hcl.grew hW)
  obtain ⟨ks, hks⟩ : ∃ ks, (findT db tn).cols.map Cl.kind = ks := ⟨_, rfl⟩
  have HKL : Hid (ks.length = (findT db tn).cols.length) := Lib.hid (by rw [← hks, List.length_map])
  have HKS : Hid (∀ q (h : q < (findT db tn).cols.length), ks.getD q 0 = (findT db tn).cols[q].kind) := Lib.hid fun q h => by
    rw [← hks, getD_of (by simpa using h)]
    simp
  have HCLf : Hid (ClsR (PRow w) Cf (findT db tn).cols) := Lib.hid (by
    obtain ⟨_, _, _, _, hcs, _, _, hcl, _⟩ := hTb
    simp only [List.cons.injEq, Value.slice.injEq] at hcs
    obtain ⟨_, ⟨rfl, _, rfl⟩, _⟩ := hcs
    exact hcl)
  have HKi : Hid (∀ W, Grew w W → Calls Try.prog 62 #[tbV (findT db tn) Cf kf Bf jf] W (fun e w' => ∃ A' k', e = .returned (.slice A' (findT db tn).cols.length k') ∧ Grew W w' ∧ Row w' A' (iV ks))) := Lib.hid fun W hW => by
    obtain ⟨_, _, _, _, hcs, _, _, hcl, _⟩ := hTb
    simp only [List.cons.injEq, Value.slice.injEq] at hcs
    obtain ⟨_, ⟨rfl, _, rfl⟩, _⟩ := hcs
    refine (kinds_any _ _ Bf _ jf (by omega) W (hcl.grew hW)).mono fun e w' ⟨A', k', he, hg, hr⟩ => ⟨A', k', by rw [he, List.length_map], hg, by rw [← hks]; exact hr⟩
  have HST : Hid (∀ W C k B j, Grew w W → TbR (PRow W) (findT db tn) [.string (findT db tn).name, .slice C (findT db tn).cols.length k, .slice B (findT db tn).rows.length j] → Gives Try.prog 63 #[tbV (findT db tn) C k B j, tbV (findT db tn) Cf kf Bf jf] W (.bool true)) := Lib.hid fun W C k B j hW hTT => by
    obtain ⟨_, _, _, _, hcs, _, _, hcl, hrw⟩ := hTb
    simp only [List.cons.injEq, Value.slice.injEq, and_true] at hcs
    obtain ⟨_, ⟨rfl, _, rfl⟩, rfl, _, rfl⟩ := hcs
    obtain ⟨_, _, _, _, hcs, _, _, hcl2, hrw2⟩ := hTT
    simp only [List.cons.injEq, Value.slice.injEq, and_true] at hcs
    obtain ⟨_, ⟨rfl, _, rfl⟩, rfl, _, rfl⟩ := hcs
    exact rsametable_eq _ _ _ _ _ _ _ _ _ (by omega) hF.2 W hcl2 (hcl.grew hW) hrw2 (hrw.grew hW)
  obtain ⟨less, hless⟩ : ∃ less, withoutT db z i = less := ⟨_, rfl⟩
  have hll : less.length ≤ 1000000 := by rw [← hless, withoutT_len, HL.out]; omega
  have hro : ∀ y ∈ db, y.rows.length ≤ 1000000 := fun y hy => by have := hsz y hy; omega
  have HWo : Hid (∀ W, Grew w W → Calls Try.prog 64 #[.slice A m k, .string tn, .int .i64 i] W (TabsF w W less)) := Lib.hid fun W hW => by rw [← hless]; exact withoutT_any db m HL.out (by omega) hro tn z hz i A k w W hW RA.out
  have HRWo : Hid (∀ W, Grew w W → Calls Try.prog 67 #[.slice A m k, .string tn, .int .i64 i] W (TabsF w W less)) := Lib.hid fun W hW => by rw [← hless]; exact rwithoutT_any db m HL.out (by omega) hro tn z hz i A k w W hW RA.out
  have hlok : TbsOk less := by rw [← hless]; exact ok_without HO.out
  have hlsz : ∀ y ∈ less, y.cols.length ≤ 1000000 ∧ RwsOk y.rows := fun y hy => by
    rw [← hless] at hy
    obtain ⟨j, hj, rfl⟩ := List.getElem_of_mem hy
    rw [withoutT_len] at hj
    rw [withoutT_at hj]
    obtain ⟨o1, o2, o3, o4⟩ := outW_name (z := z) (i := i) hj
    have h1 := hsz _ (List.getElem_mem hj)
    have h2 := HO.out.2 _ (List.getElem_mem hj)
    exact ⟨by rw [o2]; omega, by have := h2.2.2.1; omega, fun r hr => h2.2.2.2 r (o3 r hr)⟩
  have hls : sizeT less ≤ 400 := by
    have : sizeT less ≤ sizeT db := by
      rw [← hless]
      rcases hz with ⟨q, rfl, hq, _, _⟩ | ⟨rfl, _⟩
      · have := sizeT_without (l := db) (i := i) (q := q) (by simpa using hq); omega
      · rw [withoutT_none (by omega)]; exact Nat.le_refl _
    omega
  have HSame : Hid (∀ W A1 k1 A2 k2, TbsR (PRow W) A1 less → TbsR (PRow W) A2 less → Gives Try.prog 66 #[.slice A1 less.length k1, .slice A2 less.length k2] W (.bool true)) := Lib.hid fun W A1 k1 A2 k2 h1 h2 => rsametables_eq less _ rfl hll hlsz A1 A2 k1 k2 W h1 h2
  have HSz : Hid (∀ W, Grew w W → Gives Try.prog 65 #[.slice A m k] W (.int .i64 (sizeT db))) := Lib.hid fun W hW => size_any db m HL.out (by omega) (by omega) A k W (RA.out.grew hW)
  have HSzL : Hid (∀ W A' k', TbsR (PRow W) A' less → Gives Try.prog 65 #[.slice A' less.length k'] W (.int .i64 (sizeT less))) := Lib.hid fun W A' k' h => size_any less _ rfl hll (by omega) A' k' W h
  have HCh : Hid (∀ W, Grew w W → Gives Try.prog 57 #[.slice A m k] W (.int .i64 (checkE db))) := Lib.hid fun W hW => by
    have := rcheck_any db HO.out A k (by rw [HL.out]; exact hk) W (RA.out.grew hW)
    rwa [HL.out] at this
  have HChL : Hid (∀ W A' k', less.length ≤ k' → TbsR (PRow W) A' less → Gives Try.prog 57 #[.slice A' less.length k'] W (.int .i64 (checkE less))) := Lib.hid fun W A' k' hk' h => rcheck_any less hlok A' k' hk' W h
  have HCC : Hid (checkE db = 0 → checkE less = 0) := Lib.hid fun h => by rw [← hless]; exact check_without h
  have HCut : Hid (sizeT less + (if t = true ∧ 0 ≤ i ∧ i < ((findT db tn).rows.length : Int) then 1 else 0) = sizeT db) := Lib.hid (by
    rw [← hless]
    rcases hz with ⟨q, rfl, hq, h1, h2⟩ | ⟨rfl, h1⟩
    · have hq' : q < db.length := by simpa using hq
      have htt : t = true := ht.2 ⟨db[q], List.getElem_mem hq', by simpa using h1⟩
      have hfe := findT_at hq' (by simpa using h1) fun j hj hji => by simpa using h2 j hji
      have := sizeT_without (l := db) (i := i) (q := q) hq'
      rw [hfe, ← this]
      congr 1
      by_cases hc : 0 ≤ i ∧ i < (db[q].rows.length : Int)
      · rw [if_pos ⟨htt, hc⟩, if_pos hc]
      · rw [if_neg (fun h => hc h.2), if_neg hc]
    · have htt : ¬ t = true := fun h => by
        obtain ⟨y, hy, he⟩ := ht.1 h
        exact h1 _ (List.mem_map.2 ⟨y, hy, rfl⟩) he
      rw [withoutT_none (by omega), if_neg (fun h => htt h.1)]
      rfl)
  obtain ⟨sl, hsl⟩ : ∃ sl, sizeT less = sl := ⟨_, rfl⟩
  obtain ⟨sd, hsd⟩ : ∃ sd, sizeT db = sd := ⟨_, rfl⟩
  obtain ⟨ce, hce⟩ : ∃ ce, checkE db = ce := ⟨_, rfl⟩
  obtain ⟨cl, hcl⟩ : ∃ cl, checkE less = cl := ⟨_, rfl⟩
  rw [hsl] at HSzL HCut hls
  rw [hsd] at HSz HCut hst
  rw [hce] at HCh HCC
  rw [hcl] at HChL HCC
  clear hsl hsd hce hcl hless hll hro hlok hlsz hTb hin hno hRF ht hz hzc hcv hks g1 g2 g3 hsz HGood hm18 HO RA
  generalize findT db tn = F at *
  obtain ⟨fn, fc, fr⟩ := F
  unfold tbV at *
  simp only at *
  obtain ⟨hfc, hfok⟩ := hF
  have hfc1 : fc.length ≤ 400 := by omega
  have hfr1 : fr.length ≤ 400 := by omega
  clear hfok hfc hlong
  go_wp2_with fail
  refine (hFi.out _ HG1.out).mono ?_
  rintro e w2 ⟨C2, k2, B2, j2, rfl, hg2, hT2⟩
  have HG2 := Lib.hid (HG1.out.trans hg2)
  have HT2 := Lib.hid hT2
  clear hg2 hT2 hFi hlong'
  unfold tbV
  simp only
  go_wp2_with fail
  refine (HRF.out _ (HG2.out.alloc _)).grows.mono ?_
  rintro e w3 ⟨rfl, hg3⟩
  have HB9 := Lib.hid ((Blok.new w2 80 #[.string fn, .slice C2 fc.length k2, .slice B2 fr.length j2] _ rfl).grew hg3)
  have HG3 : Hid (Grew w w3) := Lib.hid ((HG2.out.alloc _).trans hg3)
  have HG23 : Hid (Grew w2 w3) := Lib.hid (((Grew.refl _).alloc _).trans hg3)
  clear hg3 HRF
  have HB11 := Lib.hid (Blok.new w3 80 #[.string fn, .slice Cf fc.length kf, .slice Bf fr.length jf] _ rfl)
  obtain ⟨g9, hg9⟩ : ∃ g9, w2.heap.size = g9 := ⟨_, rfl⟩
  rw [hg9] at HB9
  rw [hg9]
  clear hg9
  go_wp2_with fail
  refine (HCo.out _ (HG3.out.alloc _)).grows.mono ?_
  rintro e w4 ⟨rfl, hg4⟩
  have HB9 := Lib.hid ((HB9.out.alloc _).grew hg4)
  have HB11 := Lib.hid (HB11.out.grew hg4)
  have HG4 : Hid (Grew w w4) := Lib.hid ((HG3.out.alloc _).trans hg4)
  have HG24 : Hid (Grew w2 w4) := Lib.hid ((HG23.out.alloc _).trans hg4)
  obtain ⟨g11, hg11⟩ : ∃ g11, w3.heap.size = g11 := ⟨_, rfl⟩
  rw [hg11] at HB11
  rw [hg11]
  have d0 := HB11.out.cell 0
  have d1 := HB11.out.cell 1
  have d2 := HB11.out.cell 2
  have dl := HB11.out.lt
  simp at d0 d1 d2
  clear hg4 hg11 HCo HG3 HG23
  go_wp2_with fail
  refine (HRCo.out _ HG4.out).grows.mono ?_
  rintro e w5 ⟨rfl, hg5⟩
  have HB9 := Lib.hid (HB9.out.grew hg5)
  have HB11 := Lib.hid (HB11.out.grew hg5)
  have HG5 := Lib.hid (HG4.out.trans hg5)
  have HG25 := Lib.hid (HG24.out.trans hg5)
  clear hg5 HRCo HG4 HG24 d0 d1 d2 dl
  have d0 := HB11.out.cell 0
  have d1 := HB11.out.cell 1
  have d2 := HB11.out.cell 2
  have dl := HB11.out.lt
  simp at d0 d1 d2
  go_wp2_with fail
  refine (HKi.out _ HG5.out).mono ?_
  rintro e w6 ⟨A6, k6, rfl, hg6, hr6⟩
  have HB9 := Lib.hid (HB9.out.grew hg6)
  have HB11 := Lib.hid (HB11.out.grew hg6)
  have HG6 := Lib.hid (HG5.out.trans hg6)
  have HG26 := Lib.hid (HG25.out.trans hg6)
  have HR6 := Lib.hid hr6
  clear hg6 hr6 HKi HG5 HG25 d0 d1 d2 dl
  have d0 := HB11.out.cell 0
  have d1 := HB11.out.cell 1
  have d2 := HB11.out.cell 2
  have dl := HB11.out.lt
  have c0 := HB9.out.cell 0
  have c1 := HB9.out.cell 1
  have c2 := HB9.out.cell 2
  have clt := HB9.out.lt
  simp at d0 d1 d2 c0 c1 c2
  have HST6 := Lib.hid (HST.out w6 C2 k2 B2 j2 HG6.out (HT2.out.grew HG26.out))
  clear HST HT2 HG26
  go_wp2_with fail
  refine HST6.out.grows.mono ?_
  rintro e w7 ⟨rfl, hg7⟩
  have HB11 := Lib.hid (HB11.out.grew hg7)
  have HG7 := Lib.hid (HG6.out.trans hg7)
  have HR7 := Lib.hid (HR6.out.grew hg7)
  clear hg7 HST6 HG6 HR6 HB9 d0 d1 d2 dl c0 c1 c2 clt
  have d1 := HB11.out.cell 1
  have dl := HB11.out.lt
  simp at d1
  have z1 : (t != t) = false := by simp
  have z2 : (ct != ct) = false := by simp
  have z3 : (cz != cz) = false := by simp
  have z4 : ((fc.length : Int) != (fc.length : Int)) = false := by simp
  go_wp2
  clear z1 z2 z3 z4
  go_loopw [18] (fun i wr => KLoopAt w g11 #[.string fn, .slice Cf fc.length kf, .slice Bf fr.length jf] A6 ks fc.length i wr) (fun i _ => fc.length - (intOf i).toNat)
  case atStart => exact ⟨0, Nat.zero_le _, rfl, HG7.out, HB11.out, HR7.out⟩
  case round =>
    obtain ⟨q, hq, rfl, hg, hbk, hr⟩ := hrel
    have HG := Lib.hid hg
    have HBK := Lib.hid hbk
    have HR := Lib.hid hr
    have d1 := hbk.cell 1
    have d2 := hbk.cell 2
    have dl := hbk.lt
    simp at d1 d2
    clear hg hbk hr HG7 HB11 HR7
    by_cases h : q < fc.length
    · obtain ⟨b, o, rfl, hb, c0, c1⟩ := clsR_at (HCLf.out.grew HG.out) h
      have hks := HKS.out q h
      obtain ⟨b6, o6, rfl, hb6, f0⟩ := iV_at (i := q) HR.out (by rw [HKL.out]; exact h)
      rw [hks] at f0
      clear hks
      generalize fc[q] = c at *
      have e1 : (c.kind != c.kind) = false := by simp
      go_upto_region 13 with fail
      refine wp_region_more (by kernel_rfl) (by kernel_rfl) ?_
      repeat (go_big_quiet_step ((fail)))
      refine wpQuiet_nil ?_
      rintro _ ⟨z, rfl⟩
      go_wp2
      exact ⟨⟨q + 1, by omega, by go_num, HG.out.more z, HBK.out.more z, HR.out.more z⟩, by simp only [intOf]; omega⟩
    · obtain rfl : q = fc.length := by omega
      clear HKS HKL HCLf HR
      go_wp2_with fail
      refine (HWo.out _ HG.out).mono ?_
      rintro e w8 ⟨A8, k8, rfl, hk8, hg8, hr8⟩
      have HBK8 := Lib.hid (HBK.out.grew hg8)
      have HG8 := Lib.hid (HG.out.trans hg8)
      have HT8 : Hid (TbsR (PRow w8) A8 less) := Lib.hid (hr8.imp (MRow.prow (HG.out.trans hg8)))
      clear hg8 hr8 HBK HWo HG d1 d2 dl
      go_wp2_with fail
      refine (HSz.out _ HG8.out).grows.mono ?_
      rintro e w9 ⟨rfl, hg9⟩
      have HBK9 := Lib.hid (HBK8.out.grew hg9)
      have HG9 := Lib.hid (HG8.out.trans hg9)
      have HT9 := Lib.hid (HT8.out.grew hg9)
      have d2 := HBK9.out.cell 2
      have dl := HBK9.out.lt
      simp at d2
      clear hg9 HBK8 HG8 HT8 HSz
      by_cases ht : t = true
      · subst ht
        by_cases hi0 : 0 ≤ i
        · by_cases hi1 : i < (fr.length : Int)
          · have hs := HCut.out
            rw [if_pos ⟨rfl, hi0, hi1⟩] at hs
            have e5 : ((sl : Int) == (sd : Int) - 1) = true := by rw [beq_iff_eq]; omega
            clear hs HCut
            go_wp2_with fail
            refine (HRWo.out _ HG9.out).mono ?_
            rintro e w10 ⟨A10, k10, rfl, hk10, hg10, hr10⟩
            have HG10 := Lib.hid (HG9.out.trans hg10)
            have HT10 := Lib.hid (HT9.out.grew hg10)
            have HU10 : Hid (TbsR (PRow w10) A10 less) := Lib.hid (hr10.imp (MRow.prow (HG9.out.trans hg10)))
            clear hg10 hr10 HRWo HG9 HT9 HBK9 d2 dl
            go_wp2_with fail
            refine (HSame.out _ _ _ _ _ HT10.out HU10.out).grows.mono ?_
            rintro e w11 ⟨rfl, hg11⟩
            have HG11 := Lib.hid (HG10.out.trans hg11)
            have HT11 := Lib.hid (HT10.out.grew hg11)
            clear hg11 HSame HG10 HT10 HU10
            go_wp2_with fail
            refine (HSzL.out _ _ _ HT11.out).grows.mono ?_
            rintro e w12 ⟨rfl, hg12⟩
            have HG12 := Lib.hid (HG11.out.trans hg12)
            have HT12 := Lib.hid (HT11.out.grew hg12)
            clear hg12 HSzL HG11 HT11
            go_wp2_with fail
            refine (HCh.out _ HG12.out).grows.mono ?_
            rintro e w13 ⟨rfl, hg13⟩
            have HG13 := Lib.hid (HG12.out.trans hg13)
            have HT13 := Lib.hid (HT12.out.grew hg13)
            clear hg13 HCh HG12 HT12 e5
            by_cases hc0 : ce = 0
            · have hcl := HCC.out hc0
              have e6 : (ce != 0) = false := by simp [hc0]
              have e7 : (cl == 0) = true := by simp [hcl]
              clear hc0 hcl HCC
              go_wp2_with fail
              refine (HChL.out _ _ _ hk8 HT13.out).grows.mono ?_
              rintro e w14 ⟨rfl, hg14⟩
              have HG14 := Lib.hid (HG13.out.trans hg14)
              clear hg14 HChL HG13 HT13
              go_wp2_with (first | (go_at_call 54; (with_reducible refine (live5_any _).grows.mono ?_); rintro e w15 ⟨rfl, hg15⟩; have HG15 := Lib.hid (HG14.out.trans hg15); clear hg15))
              go_ret
              exact ⟨rfl, HG15.out⟩
            · have e6 : (ce != 0) = true := by simp [hc0]
              clear hc0 HCC
              go_wp2_with (first | (go_at_call 54; (with_reducible refine (live5_any _).grows.mono ?_); rintro e w15 ⟨rfl, hg15⟩; have HG15 := Lib.hid (HG13.out.trans hg15); clear hg15))
              go_ret
              exact ⟨rfl, HG15.out⟩
          · have hs := HCut.out
            rw [if_neg (fun h => hi1 h.2.2)] at hs
            obtain rfl : sl = sd := by omega
            have e5 : ((sl : Int) == (sl : Int)) = true := beq_self_eq_true _
            have hi1' : (fr.length : Int) ≤ i := by omega
            clear hs HCut
            go_wp2_with fail
            refine (HRWo.out _ HG9.out).mono ?_
            rintro e w10 ⟨A10, k10, rfl, hk10, hg10, hr10⟩
            have HG10 := Lib.hid (HG9.out.trans hg10)
            have HT10 := Lib.hid (HT9.out.grew hg10)
            have HU10 : Hid (TbsR (PRow w10) A10 less) := Lib.hid (hr10.imp (MRow.prow (HG9.out.trans hg10)))
            clear hg10 hr10 HRWo HG9 HT9 HBK9 d2 dl
            go_wp2_with fail
            refine (HSame.out _ _ _ _ _ HT10.out HU10.out).grows.mono ?_
            rintro e w11 ⟨rfl, hg11⟩
            have HG11 := Lib.hid (HG10.out.trans hg11)
            have HT11 := Lib.hid (HT10.out.grew hg11)
            clear hg11 HSame HG10 HT10 HU10
            go_wp2_with fail
            refine (HSzL.out _ _ _ HT11.out).grows.mono ?_
            rintro e w12 ⟨rfl, hg12⟩
            have HG12 := Lib.hid (HG11.out.trans hg12)
            have HT12 := Lib.hid (HT11.out.grew hg12)
            clear hg12 HSzL HG11 HT11
            go_wp2_with fail
            refine (HCh.out _ HG12.out).grows.mono ?_
            rintro e w13 ⟨rfl, hg13⟩
            have HG13 := Lib.hid (HG12.out.trans hg13)
            have HT13 := Lib.hid (HT12.out.grew hg13)
            clear hg13 HCh HG12 HT12 e5
            by_cases hc0 : ce = 0
            · have hcl := HCC.out hc0
              have e6 : (ce != 0) = false := by simp [hc0]
              have e7 : (cl == 0) = true := by simp [hcl]
              clear hc0 hcl HCC
              go_wp2_with fail
              refine (HChL.out _ _ _ hk8 HT13.out).grows.mono ?_
              rintro e w14 ⟨rfl, hg14⟩
              have HG14 := Lib.hid (HG13.out.trans hg14)
              clear hg14 HChL HG13 HT13
              go_wp2_with (first | (go_at_call 54; (with_reducible refine (live5_any _).grows.mono ?_); rintro e w15 ⟨rfl, hg15⟩; have HG15 := Lib.hid (HG14.out.trans hg15); clear hg15))
              go_ret
              exact ⟨rfl, HG15.out⟩
            · have e6 : (ce != 0) = true := by simp [hc0]
              clear hc0 HCC
              go_wp2_with (first | (go_at_call 54; (with_reducible refine (live5_any _).grows.mono ?_); rintro e w15 ⟨rfl, hg15⟩; have HG15 := Lib.hid (HG13.out.trans hg15); clear hg15))
              go_ret
              exact ⟨rfl, HG15.out⟩
        · have hs := HCut.out
          rw [if_neg (fun h => hi0 h.2.1)] at hs
          obtain rfl : sl = sd := by omega
          have e5 : ((sl : Int) == (sl : Int)) = true := beq_self_eq_true _
          have hi0' : i < 0 := by omega
          clear hs HCut
          go_wp2_with fail
          refine (HRWo.out _ HG9.out).mono ?_
          rintro e w10 ⟨A10, k10, rfl, hk10, hg10, hr10⟩
          have HG10 := Lib.hid (HG9.out.trans hg10)
          have HT10 := Lib.hid (HT9.out.grew hg10)
          have HU10 : Hid (TbsR (PRow w10) A10 less) := Lib.hid (hr10.imp (MRow.prow (HG9.out.trans hg10)))
          clear hg10 hr10 HRWo HG9 HT9 HBK9 d2 dl
          go_wp2_with fail
          refine (HSame.out _ _ _ _ _ HT10.out HU10.out).grows.mono ?_
          rintro e w11 ⟨rfl, hg11⟩
          have HG11 := Lib.hid (HG10.out.trans hg11)
          have HT11 := Lib.hid (HT10.out.grew hg11)
          clear hg11 HSame HG10 HT10 HU10
          go_wp2_with fail
          refine (HSzL.out _ _ _ HT11.out).grows.mono ?_
          rintro e w12 ⟨rfl, hg12⟩
          have HG12 := Lib.hid (HG11.out.trans hg12)
          have HT12 := Lib.hid (HT11.out.grew hg12)
          clear hg12 HSzL HG11 HT11
          go_wp2_with fail
          refine (HCh.out _ HG12.out).grows.mono ?_
          rintro e w13 ⟨rfl, hg13⟩
          have HG13 := Lib.hid (HG12.out.trans hg13)
          have HT13 := Lib.hid (HT12.out.grew hg13)
          clear hg13 HCh HG12 HT12 e5
          by_cases hc0 : ce = 0
          · have hcl := HCC.out hc0
            have e6 : (ce != 0) = false := by simp [hc0]
            have e7 : (cl == 0) = true := by simp [hcl]
            clear hc0 hcl HCC
            go_wp2_with fail
            refine (HChL.out _ _ _ hk8 HT13.out).grows.mono ?_
            rintro e w14 ⟨rfl, hg14⟩
            have HG14 := Lib.hid (HG13.out.trans hg14)
            clear hg14 HChL HG13 HT13
            go_wp2_with (first | (go_at_call 54; (with_reducible refine (live5_any _).grows.mono ?_); rintro e w15 ⟨rfl, hg15⟩; have HG15 := Lib.hid (HG14.out.trans hg15); clear hg15))
            go_ret
            exact ⟨rfl, HG15.out⟩
          · have e6 : (ce != 0) = true := by simp [hc0]
            clear hc0 HCC
            go_wp2_with (first | (go_at_call 54; (with_reducible refine (live5_any _).grows.mono ?_); rintro e w15 ⟨rfl, hg15⟩; have HG15 := Lib.hid (HG13.out.trans hg15); clear hg15))
            go_ret
            exact ⟨rfl, HG15.out⟩
      · have htf : t = false := by simpa using ht
        subst htf
        have hs := HCut.out
        rw [if_neg (fun h => ht h.1)] at hs
        obtain rfl : sl = sd := by omega
        have e5 : ((sl : Int) == (sl : Int)) = true := beq_self_eq_true _
        clear hs HCut ht
        go_wp2_with fail
        refine (HRWo.out _ HG9.out).mono ?_
        rintro e w10 ⟨A10, k10, rfl, hk10, hg10, hr10⟩
        have HG10 := Lib.hid (HG9.out.trans hg10)
        have HT10 := Lib.hid (HT9.out.grew hg10)
        have HU10 : Hid (TbsR (PRow w10) A10 less) := Lib.hid (hr10.imp (MRow.prow (HG9.out.trans hg10)))
        clear hg10 hr10 HRWo HG9 HT9 HBK9 d2 dl
        go_wp2_with fail
        refine (HSame.out _ _ _ _ _ HT10.out HU10.out).grows.mono ?_
        rintro e w11 ⟨rfl, hg11⟩
        have HG11 := Lib.hid (HG10.out.trans hg11)
        have HT11 := Lib.hid (HT10.out.grew hg11)
        clear hg11 HSame HG10 HT10 HU10
        go_wp2_with fail
        refine (HSzL.out _ _ _ HT11.out).grows.mono ?_
        rintro e w12 ⟨rfl, hg12⟩
        have HG12 := Lib.hid (HG11.out.trans hg12)
        have HT12 := Lib.hid (HT11.out.grew hg12)
        clear hg12 HSzL HG11 HT11
        go_wp2_with fail
        refine (HCh.out _ HG12.out).grows.mono ?_
        rintro e w13 ⟨rfl, hg13⟩
        have HG13 := Lib.hid (HG12.out.trans hg13)
        have HT13 := Lib.hid (HT12.out.grew hg13)
        clear hg13 HCh HG12 HT12 e5
        by_cases hc0 : ce = 0
        · have hcl := HCC.out hc0
          have e6 : (ce != 0) = false := by simp [hc0]
          have e7 : (cl == 0) = true := by simp [hcl]
          clear hc0 hcl HCC
          go_wp2_with fail
          refine (HChL.out _ _ _ hk8 HT13.out).grows.mono ?_
          rintro e w14 ⟨rfl, hg14⟩
          have HG14 := Lib.hid (HG13.out.trans hg14)
          clear hg14 HChL HG13 HT13
          go_wp2_with (first | (go_at_call 54; (with_reducible refine (live5_any _).grows.mono ?_); rintro e w15 ⟨rfl, hg15⟩; have HG15 := Lib.hid (HG14.out.trans hg15); clear hg15))
          go_ret
          exact ⟨rfl, HG15.out⟩
        · have e6 : (ce != 0) = true := by simp [hc0]
          clear hc0 HCC
          go_wp2_with (first | (go_at_call 54; (with_reducible refine (live5_any _).grows.mono ?_); rintro e w15 ⟨rfl, hg15⟩; have HG15 := Lib.hid (HG13.out.trans hg15); clear hg15))
          go_ret
          exact ⟨rfl, HG15.out⟩
end Go.Proofs.Ytcokhgomibimcaa
