/- Layer 5: the document's row, cols, Find. Condition: tables that lie in memory that is there. -/
import Derived.Test.YtcokhgomibimcaaTab6
import Derived.Test.YtcokhgomibimcaaLawName
namespace Go.Proofs.Ytcokhgomibimcaa
open Go.RowKit
attribute [local go_sem] more_cell more_frozen more_more more_setCell more_of_drew more_of_drewN lt_more le_more past_cell past_cell2 past_frozen past_frozen2 past_setCell past_setCell2 mid_cell mid_frozen mid_setCell
attribute [local go_sem ↓] Go.wp_at_zero Go.wp_at_succ

def RowAt (w : World) (cs : Array Value) (ks : List Int) (r : List Vl) (i : Value) (wr : World) : Prop := ∃ j : Nat, j ≤ r.length ∧ i = .int .i64 j ∧ Grew w wr ∧ Blok wr w.heap.size 80 cs ∧ ∀ i, i < j → fitV (ks.getD i 0) (r.getD i default)
set_option maxHeartbeats 1000000 in
set_option maxRecDepth 100000 in
theorem rrow_any (x : Tb) (r : List Vl) (A B C : Option Addr) (k k2 j2 : Nat) (hr : r.length ≤ 140737488355328) (hc : x.cols.length ≤ 140737488355328) (t : Bool) (ht : t = true ↔ fitB (x.cols.map Cl.kind) r) (w : World) (ra : VlsR (PRow w) A r) (rc : ClsR (PRow w) C x.cols) :
    Gives Try.prog 125 #[tbV x C k2 B j2, .slice A r.length k] w (.bool t) := by
  have RA := Lib.hid ra
  have RC := Lib.hid rc
  have HT := Lib.hid ht
  clear ra rc ht
  obtain ⟨name, cols, rows⟩ := x
  unfold Gives tbV
  simp only at *
  have HB0 := Lib.hid (Blok.new w 80 #[.string name, .slice C cols.length k2, .slice B rows.length j2] _ rfl)
  by_cases hl : r.length = cols.length
  · have HL := Lib.hid hl
    have e0 : ((r.length : Int) != (cols.length : Int)) = false := by rw [hl]; simp
    clear hl
    go_enter Try.func125, Try.ntmps125
    go_wp2
    go_loopw [5] (fun i wr => RowAt w #[.string name, .slice C cols.length k2, .slice B rows.length j2] (cols.map Cl.kind) r i wr) (fun i _ => r.length - (intOf i).toNat)
    case atStart => exact ⟨0, Nat.zero_le _, rfl, by (show Grew _ _; repeat (first | exact Grew.refl _ | refine Grew.alloc ?_ _ | refine Grew.drew ?_ | refine Grew.more ?_ _)), HB0.out, fun i hi => by omega⟩
    case round =>
      obtain ⟨q, hq, rfl, hg, hbk, ha⟩ := hrel
      have HG := Lib.hid hg
      have HA := Lib.hid ha
      have HBK := Lib.hid hbk
      have d1 := hbk.cell 1
      have dl := hbk.lt
      simp at d1
      clear hg ha hbk HB0
      by_cases h : q < r.length
      · obtain ⟨b, o, rfl, hb, c0, c1, c2⟩ := vlsR_at (RA.out.grew HG.out) h
        have h2 : q < cols.length := by rw [← HL.out]; exact h
        obtain ⟨b2, o2, rfl, hb2, f0, f1⟩ := clsR_at (RC.out.grew HG.out) h2
        have HR := Lib.hid (getD_of h default)
        have HK : Hid ((cols.map Cl.kind).getD q 0 = cols[q].kind) := Lib.hid (by rw [getD_of (by simpa using h2)]; simp)
        have HBad : Hid (¬ fitV ((cols.map Cl.kind).getD q 0) (r.getD q default) → t = false) := Lib.hid fun hn => not_true' HT.out fun hf => hn (hf.2 q h)
        have HGd : Hid (fitV ((cols.map Cl.kind).getD q 0) (r.getD q default) → ∀ i, i < q + 1 → fitV ((cols.map Cl.kind).getD i 0) (r.getD i default)) := Lib.hid fun hf i hi => by
          rcases Nat.lt_or_ge i q with h3 | h3
          · exact HA.out i h3
          · have : i = q := by omega
            subst this; exact hf
        rw [HR.out, HK.out] at HBad HGd
        generalize r[q] = v at *
        generalize cols[q] = cq at *
        obtain ⟨cn, kq⟩ := cq
        obtain ⟨vk, vi, vs⟩ := v
        simp only at *
        obtain ⟨tr, htr⟩ : ∃ tr, rightV vk vi vs = tr := ⟨_, rfl⟩
        obtain ⟨tn, htn⟩ : ∃ tn, (vk != 0) = tn := ⟨_, rfl⟩
        obtain ⟨te, hte⟩ : ∃ te, (vk != kq) = te := ⟨_, rfl⟩
        have HRt : Hid (∀ W, Gives Try.prog 155 #[.agg #[.int .i64 vk, .int .i64 vi, .string vs]] W (.bool tr)) := Lib.hid fun W => by rw [← htr]; exact rright_any _ _ _ _
        have HF : Hid ((tr = true ∧ (tn = false ∨ te = false)) ↔ fitV kq ⟨vk, vi, vs⟩) := Lib.hid (by
          unfold fitV
          simp only
          rw [htr, ← htn, ← hte]
          simp)
        clear htr HA HT
        cases tr
        · have HFF := Lib.hid (HBad.out fun hf => by have := HF.out.2 hf; simp at this)
          obtain rfl := HFF.out
          go_upto_region 6 with fail
          refine wp_region_more (by kernel_rfl) (by kernel_rfl) ?_
          repeat (go_big_quiet_step (((first | (go_at_call 155; exact (HRt.out _).within)))))
          refine wpQuiet_nil ?_
          rintro _ ⟨z, rfl⟩
          go_wp2
          go_ret
          exact ⟨rfl, HG.out.more z⟩
        · cases tn
          · have HFF := Lib.hid (HGd.out (HF.out.1 (by simp)))
            go_upto_region 6 with fail
            refine wp_region_more (by kernel_rfl) (by kernel_rfl) ?_
            repeat (go_big_quiet_step (((first | (go_at_call 155; exact (HRt.out _).within)))))
            refine wpQuiet_nil ?_
            rintro _ ⟨z, rfl⟩
            go_wp2
            exact ⟨⟨q + 1, by omega, by go_num, HG.out.more z, HBK.out.more z, HFF.out⟩, by simp only [intOf]; omega⟩
          · cases te
            · have HFF := Lib.hid (HGd.out (HF.out.1 (by simp)))
              go_upto_region 6 with fail
              refine wp_region_more (by kernel_rfl) (by kernel_rfl) ?_
              repeat (go_big_quiet_step (((first | (go_at_call 155; exact (HRt.out _).within)))))
              refine wpQuiet_nil ?_
              rintro _ ⟨z, rfl⟩
              go_wp2
              exact ⟨⟨q + 1, by omega, by go_num, HG.out.more z, HBK.out.more z, HFF.out⟩, by simp only [intOf]; omega⟩
            · have HFF := Lib.hid (HBad.out fun hf => by have := HF.out.2 hf; simp at this)
              obtain rfl := HFF.out
              go_upto_region 6 with fail
              refine wp_region_more (by kernel_rfl) (by kernel_rfl) ?_
              repeat (go_big_quiet_step (((first | (go_at_call 155; exact (HRt.out _).within)))))
              refine wpQuiet_nil ?_
              rintro _ ⟨z, rfl⟩
              go_wp2
              go_ret
              exact ⟨rfl, HG.out.more z⟩
      · obtain rfl : q = r.length := by omega
        have ht : t = true := HT.out.2 ⟨by rw [List.length_map]; exact HL.out, HA.out⟩
        subst ht
        clear HT
        go_wp2
        go_ret
        exact ⟨rfl, HG.out⟩
  · have e0 : ((r.length : Int) != (cols.length : Int)) = true := by rw [bne_iff_ne]; omega
    have hf : t = false := not_true' HT.out (fun e => hl (by have := e.1; rwa [List.length_map] at this))
    subst hf
    go_enter Try.func125, Try.ntmps125
    go_wp2
    go_ret
    exact ⟨rfl, by (show Grew _ _; repeat (first | exact Grew.refl _ | refine Grew.alloc ?_ _ | refine Grew.drew ?_ | refine Grew.more ?_ _))⟩
def ColsAt (w : World) (cols : List Cl) (i : Value) (wr : World) : Prop := ∃ j : Nat, j ≤ cols.length ∧ i = .int .i64 j ∧ Grew w wr ∧ ∀ i, i < j → colBad (cols.take i) (cols.getD i default) = 0
def DupAt (w : World) (cols : List Cl) (n : ByteArray) (q : Nat) (i : Value) (wr : World) : Prop := ∃ j : Nat, j ≤ q ∧ i = .int .i64 j ∧ Grew w wr ∧ ∀ y ∈ cols.take j, ¬ y.name = n
section
open Classical
theorem colBad_name {a : List Cl} {x : Cl} (h : nameB x.name = false) : colBad a x = 2 := by unfold colBad; rw [if_pos (Or.inl h)]
theorem colBad_dup {a : List Cl} {x : Cl} (h : ∃ y ∈ a, y.name = x.name) : colBad a x = 2 := by unfold colBad; rw [if_pos (Or.inr h)]
theorem colBad_kind {a : List Cl} {x : Cl} (h : nameB x.name = true) (h2 : ∀ y ∈ a, ¬ y.name = x.name) (h3 : x.kind < 1 ∨ 2 < x.kind) : colBad a x = 3 := by
  unfold colBad
  rw [if_neg, if_pos (by omega)]
  rintro (h4 | ⟨y, hy, h4⟩)
  · rw [h] at h4; cases h4
  · exact h2 y hy h4
theorem colBad_good {a : List Cl} {x : Cl} (h : nameB x.name = true) (h2 : ∀ y ∈ a, ¬ y.name = x.name) (h3 : ¬ x.kind < 1) (h4 : ¬ 2 < x.kind) : colBad a x = 0 := by
  unfold colBad
  rw [if_neg, if_neg (by omega)]
  rintro (h4 | ⟨y, hy, h4⟩)
  · rw [h] at h4; cases h4
  · exact h2 y hy h4
end
set_option maxHeartbeats 1000000 in
set_option maxRecDepth 100000 in
theorem rcols_any (cols : List Cl) (C : Option Addr) (k n : Nat) (hn : cols.length = n) (hc : n ≤ 140737488355328) (w : World) (rc : ClsR (PRow w) C cols) :
    Gives Try.prog 124 #[.slice C n k] w (.int .i64 (colsE cols)) := by
  have RC := Lib.hid rc
  have HN := Lib.hid hn
  have HE : Hid (colsE cols = firstE (fun i => colBad (cols.take i) (cols.getD i default)) cols.length) := Lib.hid rfl
  clear rc hn
  generalize colsE cols = E at *
  unfold Gives
  go_enter Try.func124, Try.ntmps124
  go_wp2
  go_loopw [3] (fun i wr => ColsAt w cols i wr) (fun i _ => n - (intOf i).toNat)
  case atStart => exact ⟨0, Nat.zero_le _, rfl, Grew.refl w, fun i hi => by omega⟩
  case round =>
    obtain ⟨q, hq, rfl, hg, ha⟩ := hrel
    rw [HN.out] at hq
    have HG := Lib.hid hg
    have HA := Lib.hid ha
    clear hg ha
    by_cases h : q < n
    · have h1 : q < cols.length := by rw [HN.out]; exact h
      obtain ⟨b, o, rfl, hb, c0, c1⟩ := clsR_at (RC.out.grew HG.out) h1
      have HD := getD_of h1 default
      have HBad : Hid (∀ e, colBad (cols.take q) (cols.getD q default) = e → ¬ e = 0 → E = e) := Lib.hid fun e he hn => by rw [HE.out]; exact firstE_at HA.out he hn h1
      have HGd : Hid (colBad (cols.take q) (cols.getD q default) = 0 → ∀ i, i < q + 1 → colBad (cols.take i) (cols.getD i default) = 0) := Lib.hid fun hf => first_next HA.out hf
      rw [HD] at HBad HGd
      have HQ : Hid (∀ W, Grew w W → b < W.heap.size ∧ W.cell? ⟨b, o + q * 2, none⟩ = some (.string cols[q].name) ∧ W.cell? ⟨b, o + q * 2 + 1, none⟩ = some (.int .i64 cols[q].kind)) := Lib.hid fun W hW => by
        obtain ⟨b', o', hA, h2, h3, h4⟩ := clsR_at (RC.out.grew hW) h1
        injection hA with hA
        injection hA with e1 e2 _
        subst e1 e2
        exact ⟨h2, h3, h4⟩
      clear HA HD
      generalize hcb : colBad (cols.take q) cols[q] = cb at *
      have HCB := Lib.hid hcb
      clear hcb
      generalize cols[q] = c at *
      obtain ⟨cn, ck⟩ := c
      simp only at *
      obtain ⟨tc, htc⟩ : ∃ tc, nameB cn = tc := ⟨_, rfl⟩
      have HNa : Hid (∀ W, Gives Try.prog 123 #[.string cn] W (.bool tc)) := Lib.hid fun W => by rw [← htc]; exact rname_any _ _
      have HTC := Lib.hid htc
      clear htc
      cases tc
      · obtain rfl := HBad.out 2 (by rw [← HCB.out]; exact colBad_name HTC.out) (by decide)
        clear HBad HGd
        go_wp2_with (first | (go_at_call 123; (with_reducible refine (HNa.out _).grows.mono ?_); rintro e w2 ⟨rfl, hg2⟩; have HG2 := Lib.hid (HG.out.trans hg2); clear hg2))
        go_ret
        exact ⟨rfl, HG2.out⟩
      · go_wp2_with (first | (go_at_call 123; (with_reducible refine (HNa.out _).grows.mono ?_); rintro e w2 ⟨rfl, hg2⟩; have HG2 := Lib.hid (HG.out.trans hg2); have HGr := Lib.hid hg2; clear hg2))
        go_loopw [4] (fun i wi => DupAt w cols cn q i wi) (fun i _ => q - (intOf i).toNat)
        case atStart => exact ⟨0, Nat.zero_le _, rfl, HG2.out, by simp⟩
        case round =>
          obtain ⟨p, hp, rfl, hg, hd⟩ := hrel
          rename_i wi
          have HG3 := Lib.hid hg
          have HD3 := Lib.hid hd
          clear hg hd
          by_cases hpq : p < q
          · have hp1 : p < cols.length := by omega
            obtain ⟨b5, o5, hA5, hb5, c5, _⟩ := clsR_at (RC.out.grew HG3.out) hp1
            injection hA5 with hA5
            injection hA5 with e1 e2 _
            subst e1 e2
            obtain ⟨_, c6, _⟩ := HQ.out _ HG3.out
            obtain ⟨te, hte⟩ : ∃ te, (cols[p].name.toList == cn.toList) = te := ⟨_, rfl⟩
            have HTE := Lib.hid hte
            have HY : Hid (cols[p].name = cn → ∃ y ∈ cols.take q, y.name = cn) := Lib.hid fun hy => ⟨cols[p], List.mem_take_iff_getElem.2 ⟨p, by omega, rfl⟩, hy⟩
            have HN5 : Hid (¬ cols[p].name = cn → ∀ y ∈ cols.take (p + 1), ¬ y.name = cn) := Lib.hid fun hy => take_all (P := fun y : Cl => ¬ y.name = cn) HD3.out hp1 hy
            generalize cols[p] = cp at *
            go_upto_region 9 with fail
            refine wp_region_more (by kernel_rfl) (by kernel_rfl) ?_
            repeat (go_big_quiet_step ((fail)))
            refine wpQuiet_nil ?_
            rintro _ ⟨z, rfl⟩
            cases te
            · go_wp2
              exact ⟨⟨p + 1, by omega, by go_num, HG3.out.more z, HN5.out fun he => by have := bytes_toList.2 he; rw [HTE.out] at this; cases this⟩, by simp only [intOf]; omega⟩
            · obtain rfl := HBad.out 2 (by rw [← HCB.out]; exact colBad_dup (HY.out (bytes_toList.1 HTE.out))) (by decide)
              clear HBad HGd
              go_wp2
              go_ret
              exact ⟨rfl, HG3.out.more z⟩
          · obtain rfl : p = q := by omega
            obtain ⟨hb6, _, c7⟩ := HQ.out _ HG3.out
            by_cases k1 : ck < 1
            · obtain rfl := HBad.out 3 (by rw [← HCB.out]; exact colBad_kind HTC.out HD3.out (Or.inl k1)) (by decide)
              clear HBad HGd
              go_wp2
              go_ret
              exact ⟨rfl, HG3.out⟩
            · by_cases k2 : 2 < ck
              · obtain rfl := HBad.out 3 (by rw [← HCB.out]; exact colBad_kind HTC.out HD3.out (Or.inr k2)) (by decide)
                clear HBad HGd
                have k1' : 1 ≤ ck := by omega
                go_wp2
                go_ret
                exact ⟨rfl, HG3.out⟩
              · have HFF := Lib.hid (HGd.out (by rw [← HCB.out]; exact colBad_good HTC.out HD3.out k1 k2))
                have k1' : 1 ≤ ck := by omega
                have k2' : ck ≤ 2 := by omega
                clear HBad HGd
                go_wp2
                exact ⟨⟨p + 1, by rw [HN.out]; omega, by go_num, HG3.out, HFF.out⟩, by simp only [intOf]; omega⟩
    · obtain rfl : q = n := by omega
      obtain rfl : E = 0 := by rw [HE.out]; exact firstE_zero (by rw [HN.out]; exact HA.out)
      clear HE
      go_wp2
      go_ret
      exact ⟨rfl, HG.out⟩
def findT (l : List Tb) (n : ByteArray) : Tb := (l.find? fun y => y.name.toList == n.toList).getD ⟨⟨#[]⟩, [], []⟩
theorem findT_at {l : List Tb} {n : ByteArray} {i : Nat} (hi : i < l.length) (h : l[i].name = n) (h2 : ∀ j (hj : j < l.length), j < i → ¬ l[j].name = n) : findT l n = l[i] := by
  unfold findT
  rw [(List.find?_eq_some_iff_getElem (p := fun y : Tb => y.name.toList == n.toList)).2 ⟨bytes_toList.2 h, i, hi, rfl, fun j hj => by
    have := h2 j (by omega) hj
    rw [Bool.not_eq_true']
    exact Bool.eq_false_iff.2 fun e => this (bytes_toList.1 e)⟩]
  rfl
theorem findT_none {l : List Tb} {n : ByteArray} (h2 : ∀ y ∈ l, ¬ y.name = n) : findT l n = ⟨⟨#[]⟩, [], []⟩ := by
  unfold findT
  rw [List.find?_eq_none.2 fun y hy => by
    have := h2 y hy
    intro e
    exact this (bytes_toList.1 e)]
  rfl
def FindAt (l : List Tb) (n : ByteArray) (i : Value) : Prop := ∃ j : Nat, j ≤ l.length ∧ i = .int .i64 j ∧ ∀ k (hk : k < l.length), k < j → ¬ l[k].name = n
theorem rfind_some (l : List Tb) (m : Nat) (hm : l.length = m) (hs : m ≤ maxLen) (n : ByteArray) (A : Option Addr) (k : Nat) (w : World) (ra : TbsR (PRow w) A l) (z : Nat) (hz : z < l.length) (hn : l[z].name = n) (h1 : ∀ j (hj : j < l.length), j < z → ¬ l[j].name = n) :
    ∃ C k2 B j2, TbR (PRow w) l[z] [.string l[z].name, .slice C l[z].cols.length k2, .slice B l[z].rows.length j2] ∧ ∀ W, Grew w W → Gives Try.prog 59 #[.slice A m k, .string n] W (.tuple #[tbV l[z] C k2 B j2, .bool true]) := by
  obtain ⟨b, o, C, k2, B, j2, rfl, hk, hj, hcl, hrw, ⟨hb, a0, a1, a2⟩⟩ := tbsR_at ra hz
  refine ⟨C, k2, B, j2, ⟨C, k2, B, j2, rfl, hk, hj, hcl, hrw⟩, fun W hW => ?_⟩
  have HA0 : Hid (∀ X, Grew W X → b < X.heap.size ∧ X.cell? ⟨b, o + z * 3, none⟩ = some (.string l[z].name) ∧ X.cell? ⟨b, o + z * 3 + 1, none⟩ = some (.slice C l[z].cols.length k2) ∧ X.cell? ⟨b, o + z * 3 + 2, none⟩ = some (.slice B l[z].rows.length j2)) := Lib.hid fun X hX => by
    have g := hW.trans hX
    exact ⟨Nat.lt_of_lt_of_le hb g.size, by rw [g.cell hb]; exact a0, by rw [g.cell hb]; exact a1, by rw [g.cell hb]; exact a2⟩
  have RA : Hid (TbsR (PRow W) (some ⟨b, o, none⟩) l) := Lib.hid (ra.grew hW)
  have HM := Lib.hid hm
  have HH1 := Lib.hid h1
  have HNe := Lib.hid hn
  clear ra hm h1 a0 a1 a2 hcl hrw hn hW hb
  unfold maxLen at hs
  unfold Gives
  have hzl : z < m := by rw [← HM.out]; exact hz
  obtain ⟨V, hV⟩ : ∃ V, tbV l[z] C k2 B j2 = V := ⟨_, rfl⟩
  rw [hV]
  have HV := Lib.hid hV
  clear hV
  go_enter Try.func59, Try.ntmps59
  go_wp2
  go_loop [6] (fun i => FindAt l n i) (fun i => m - (intOf i).toNat)
  case atStart => exact ⟨0, Nat.zero_le _, rfl, fun k hk h => absurd h (by omega)⟩
  case round =>
    obtain ⟨p, hp, rfl, ha⟩ := hrel
    rw [HM.out] at hp
    have HA := Lib.hid ha
    clear ha
    have hg := (Grew.refl W).alloc (.cells #[.string ⟨#[]⟩, .slice none 0 0, .slice none 0 0] 80)
    by_cases h : p < m
    · have hp1 : p < l.length := by rw [HM.out]; exact h
      by_cases hpz : p = z
      · subst hpz
        obtain ⟨q0, q1, q2, q3⟩ := HA0.out _ (Grew.refl W)
        have hte : (l[p].name.toList == n.toList) = true := bytes_toList.2 HNe.out
        clear HNe HH1
        generalize l[p] = x at *
        go_wp2
        exact bodyPost_ret (v := .tuple #[.agg #[.string x.name, .slice C x.cols.length k2, .slice B x.rows.length j2], .bool true]) (by simp [results, Try.results59, go_sem]) rfl ⟨by rw [← HV.out]; rfl, by (show Grew _ _; repeat (first | exact Grew.refl _ | refine Grew.alloc ?_ _ | refine Grew.drew ?_ | refine Grew.more ?_ _))⟩
      · obtain ⟨b', o', C', k', B', j', hA', _, _, _, _, ⟨hb', d0, _, _⟩⟩ := tbsR_at RA.out hp1
        injection hA' with hA'
        injection hA' with e1 e2 _
        subst e1 e2
        have hlt : p < z := by
          rcases Nat.lt_trichotomy p z with h3 | h3 | h3
          · exact h3
          · exact absurd h3 hpz
          · exact absurd HNe.out (HA.out z hz h3)
        have hne : ¬ l[p].name = n := HH1.out p hp1 hlt
        have hte : (l[p].name.toList == n.toList) = false := by
          rw [Bool.eq_false_iff]; exact fun e => hne (bytes_toList.1 e)
        have HN3 := Lib.hid hne
        clear hne hpz
        generalize hgl : l[p] = x at *
        have HGL := Lib.hid hgl
        clear hgl
        go_wp2
        refine ⟨⟨p + 1, by rw [HM.out]; omega, by go_num, fun i hi hip => ?_⟩, by simp only [intOf]; omega⟩
        rcases Nat.lt_or_ge i p with h3 | h3
        · exact HA.out i hi h3
        · have : i = p := by omega
          subst this
          rw [HGL.out]; exact HN3.out
    · exact absurd HNe.out (HA.out z hz (by omega))
theorem rfind_none (l : List Tb) (m : Nat) (hm : l.length = m) (hs : m ≤ maxLen) (n : ByteArray) (A : Option Addr) (k : Nat) (w : World) (ra : TbsR (PRow w) A l) (h1 : ∀ y ∈ l, ¬ y.name = n) :
    Gives Try.prog 59 #[.slice A m k, .string n] w (.tuple #[.agg #[.string ⟨#[]⟩, .slice none 0 0, .slice none 0 0], .bool false]) := by
  have RA := Lib.hid ra
  have HM := Lib.hid hm
  have HH1 := Lib.hid h1
  clear ra hm h1
  unfold maxLen at hs
  unfold Gives
  go_enter Try.func59, Try.ntmps59
  go_wp2
  go_loop [6] (fun i => FindAt l n i) (fun i => m - (intOf i).toNat)
  case atStart => exact ⟨0, Nat.zero_le _, rfl, fun k hk h => absurd h (by omega)⟩
  case round =>
    obtain ⟨p, hp, rfl, ha⟩ := hrel
    rw [HM.out] at hp
    have HA := Lib.hid ha
    clear ha
    by_cases h : p < m
    · have hp1 : p < l.length := by rw [HM.out]; exact h
      obtain ⟨b', o', C', k', B', j', rfl, _, _, _, _, ⟨hb', d0, _, _⟩⟩ := tbsR_at RA.out hp1
      have hne : ¬ l[p].name = n := HH1.out _ (List.getElem_mem hp1)
      have hte : (l[p].name.toList == n.toList) = false := by
        rw [Bool.eq_false_iff]; exact fun e => hne (bytes_toList.1 e)
      clear hne
      generalize l[p] = x at *
      go_wp2
      exact ⟨⟨p + 1, by rw [HM.out]; omega, by go_num, fun i hi hip => HH1.out _ (List.getElem_mem hi)⟩, by simp only [intOf]; omega⟩
    · obtain rfl : p = m := by omega
      go_wp2
      exact bodyPost_ret (v := .tuple #[.agg #[.string ⟨#[]⟩, .slice none 0 0, .slice none 0 0], .bool false]) (by simp [results, Try.results59, go_sem]) rfl ⟨rfl, by (show Grew _ _; repeat (first | exact Grew.refl _ | refine Grew.alloc ?_ _ | refine Grew.drew ?_ | refine Grew.more ?_ _))⟩
/-- What the document's Find tells is the same in every world that has grown. -/
theorem rfind_any (l : List Tb) (m : Nat) (hm : l.length = m) (hs : m ≤ maxLen) (n : ByteArray) (A : Option Addr) (k : Nat) (w : World) (ra : TbsR (PRow w) A l) :
    ∃ (C : Option Addr) (k2 : Nat) (B : Option Addr) (j2 : Nat) (t : Bool), (t = true ↔ ∃ y ∈ l, y.name = n) ∧ TbR (PRow w) (findT l n) [.string (findT l n).name, .slice C (findT l n).cols.length k2, .slice B (findT l n).rows.length j2] ∧ (t = true → findT l n ∈ l) ∧ (t = false → findT l n = ⟨⟨#[]⟩, [], []⟩) ∧
      ∀ W, Grew w W → Gives Try.prog 59 #[.slice A m k, .string n] W (.tuple #[tbV (findT l n) C k2 B j2, .bool t]) := by
  obtain ⟨z, hz⟩ := idx_exists (l.map Tb.name) n
  rcases hz with ⟨i, rfl, hi, h1, h2⟩ | ⟨rfl, h1⟩
  · have hi' : i < l.length := by simpa using hi
    have hn : l[i].name = n := by simpa using h1
    have h2' : ∀ j (hj : j < l.length), j < i → ¬ l[j].name = n := fun j hj hji => by simpa using h2 j hji
    obtain ⟨C, k2, B, j2, hT, hW⟩ := rfind_some l m hm hs n A k w ra i hi' hn h2'
    have hF := findT_at hi' hn h2'
    rw [← hF] at hT hW
    exact ⟨C, k2, B, j2, true, ⟨fun _ => ⟨_, List.getElem_mem hi', hn⟩, fun _ => rfl⟩, hT, fun _ => by rw [hF]; exact List.getElem_mem hi', (fun h => by cases h), hW⟩
  · have h1' : ∀ y ∈ l, ¬ y.name = n := fun y hy => h1 _ (List.mem_map.2 ⟨y, hy, rfl⟩)
    have hF := findT_none h1'
    refine ⟨none, 0, none, 0, false, ⟨(fun h => by cases h), fun ⟨y, hy, he⟩ => absurd he (h1' y hy)⟩, ?_, (fun h => by cases h), fun _ => hF, fun W hW => ?_⟩
    · rw [hF]
      exact ⟨none, 0, none, 0, rfl, Nat.le_refl _, Nat.le_refl _, ⟨[], ListR.nil, Or.inl rfl⟩, ⟨[], ListR.nil, Or.inl rfl⟩⟩
    · rw [hF]
      exact rfind_none l m hm hs n A k W (ra.grew hW) h1'
end Go.Proofs.Ytcokhgomibimcaa
