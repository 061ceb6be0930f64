/- Layer 8: the document's answer whether two queries are the same. Condition: queries that lie in memory that is there. -/
import Derived.Test.YtcokhgomibimcaaQuery4
import Derived.Deep.DeepCutAuto
namespace Go.Proofs.Ytcokhgomibimcaa
open Go.RowKit
attribute [local go_sem] more_cell more_frozen more_more more_setCell more_of_drew more_of_drewN lt_more le_more past_cell past_cell2 past_frozen past_frozen2 past_setCell past_setCell2 mid_cell mid_frozen mid_setCell
attribute [local go_sem ↓] Go.wp_at_zero Go.wp_at_succ

theorem bytes_neq (a b : ByteArray) (h : a = b) : (a.toList != b.toList) = false := by subst h; exact bne_self_eq_false _
theorem bytes_nne (a b : ByteArray) (h : ¬ a = b) : (a.toList != b.toList) = true := by rw [bne_iff_ne]; exact fun e => h (bytes_ext e)
def RsqAt (w0 : World) (l l' : List Fr) (ga gb : Nat) (ca cb : Array Value) (i : Value) (wr : World) : Prop := ∃ j : Nat, j ≤ l.length ∧ i = .int .i64 j ∧ Grew w0 wr ∧ Blok wr ga 66 ca ∧ Blok wr gb 66 cb ∧ l.take j = l'.take j
/-- The cells of one part of the sources. -/
def frC (x : Fr) (A : Option Addr) (k : Nat) : Array Value := #[.int .i64 x.join, .string x.table, .string x.short, .int .i64 x.on.op, .string x.on.tab, .string x.on.name, .int .i64 x.on.t, .int .i64 x.on.c, .int .i64 x.on.vk, .int .i64 x.on.vi, .string x.on.vs, .slice A x.on.l.length k]
theorem blokF {w : World} {g : Nat} {x : Fr} {A : Option Addr} {k : Nat} (h : Blok w g 139 (frC x A k)) : g < w.heap.size ∧ w.cell? ⟨g, 0, none⟩ = some (.int .i64 x.join) ∧ w.cell? ⟨g, 1, none⟩ = some (.string x.table) ∧ w.cell? ⟨g, 2, none⟩ = some (.string x.short) ∧ At9 w g 3 x.on A k :=
  ⟨h.lt, h.cell 0, h.cell 1, h.cell 2, h.lt, h.cell 3, h.cell 4, h.cell 5, h.cell 6, h.cell 7, h.cell 8, h.cell 9, h.cell 10, h.cell 11⟩
set_option maxHeartbeats 4000000 in
set_option maxRecDepth 100000 in
theorem rsq_any (it it' : List Ex) (sr sr' : List Fr) (wh wh' : Ex) (gr gr' : List Ex) (A A' : Option Addr) (k k' : Nat) (B B' : Option Addr) (j j' : Nat) (C C' : Option Addr) (c c' : Nat) (D D' : Option Addr) (d d' : Nat)
    (t : Bool) (ht : t = true ↔ it = it' ∧ gr = gr' ∧ wh = wh' ∧ sr = sr') (hn1 : it.length ≤ 1000000) (hn2 : gr.length ≤ 1000000) (hn3 : wh.nodes ≤ 1000000) (hn4 : sr.length ≤ 1000000)
    (hi1 : ∀ x ∈ it, x.nodes ≤ 1000000) (hi2 : ∀ x ∈ gr, x.nodes ≤ 1000000) (hi3 : ∀ x ∈ sr, x.on.nodes ≤ 1000000) (w : World)
    (rA : ExsR (PRow w) A it) (rB : FrsR (PRow w) B sr) (rC : ExsR (PRow w) C wh.l) (rD : ExsR (PRow w) D gr)
    (rA' : ExsR (PRow w) A' it') (rB' : FrsR (PRow w) B' sr') (rC' : ExsR (PRow w) C' wh'.l) (rD' : ExsR (PRow w) D' gr') :
    Gives Try.prog 52 #[.agg (qyC it sr wh gr A k B j C c D d), .agg (qyC it' sr' wh' gr' A' k' B' j' C' c' D' d')] w (.bool t) := by
  obtain ⟨t1, ht1⟩ := some_bool (it = it')
  obtain ⟨t2, ht2⟩ := some_bool (gr = gr')
  obtain ⟨t3, ht3⟩ := some_bool (wh = wh')
  have HC1 : Hid (∀ W, Grew w W → Gives Try.prog 39 #[.slice A it.length k, .slice A' it'.length k'] W (.bool t1)) := Lib.hid fun W hW => rall_any it it' A A' k k' hn1 t1 ht1 hi1 W (rA.grew hW) (rA'.grew hW)
  have HC2 : Hid (∀ W, Grew w W → Gives Try.prog 39 #[.slice D gr.length d, .slice D' gr'.length d'] W (.bool t2)) := Lib.hid fun W hW => rall_any gr gr' D D' d d' hn2 t2 ht2 hi2 W (rD.grew hW) (rD'.grew hW)
  have HC3 : Hid (∀ W, Grew w W → Gives Try.prog 46 #[exV wh C c, exV wh' C' c'] W (.bool t3)) := Lib.hid fun W hW => rsame_ex 1000000 (Nat.le_refl _) wh wh' hn3 C C' c c' t3 ht3 W (rC.grew hW) (rC'.grew hW)
  rw [← ht1, ← ht2, ← ht3] at ht
  have HT := Lib.hid ht
  have RB := Lib.hid rB
  have RB' := Lib.hid rB'
  have HI := Lib.hid hi3
  have hBa : Blok ((w.alloc (.cells (qyC it sr wh gr A k B j C c D d) 66)).alloc (.cells (qyC it' sr' wh' gr' A' k' B' j' C' c' D' d') 66)) w.heap.size 66 (qyC it sr wh gr A k B j C c D d) := (Blok.new _ _ _ _ rfl).alloc _
  have hBb : Blok ((w.alloc (.cells (qyC it sr wh gr A k B j C c D d) 66)).alloc (.cells (qyC it' sr' wh' gr' A' k' B' j' C' c' D' d') 66)) (w.heap.size + 1) 66 (qyC it' sr' wh' gr' A' k' B' j' C' c' D' d') := Blok.new _ _ _ _ (by simp)
  have hGw : Grew w ((w.alloc (.cells (qyC it sr wh gr A k B j C c D d) 66)).alloc (.cells (qyC it' sr' wh' gr' A' k' B' j' C' c' D' d') 66)) := ((Grew.refl w).alloc _).alloc _
  clear rA rB rC rD rA' rB' rC' rD' ht ht1 ht2 ht3 hi1 hi2 hi3 hn1 hn2 hn3
  unfold exV at HC3
  unfold qyC at *
  unfold Gives
  go_enter Try.func52, Try.ntmps52
  go_upto_region 1 with fail
  have HBa := Lib.hid hBa
  have HBb := Lib.hid hBb
  have HG1 := Lib.hid hGw
  clear hBa hBb hGw
  change Code.wp _ _ _ _ ((w.alloc (.cells #[.slice A it.length k, .slice B sr.length j, .int .i64 wh.op, .string wh.tab, .string wh.name, .int .i64 wh.t, .int .i64 wh.c, .int .i64 wh.vk, .int .i64 wh.vi, .string wh.vs, .slice C wh.l.length c, .slice D gr.length d] 66)).alloc (.cells #[.slice A' it'.length k', .slice B' sr'.length j', .int .i64 wh'.op, .string wh'.tab, .string wh'.name, .int .i64 wh'.t, .int .i64 wh'.c, .int .i64 wh'.vk, .int .i64 wh'.vi, .string wh'.vs, .slice C' wh'.l.length c', .slice D' gr'.length d'] 66))
  generalize ((w.alloc (.cells #[.slice A it.length k, .slice B sr.length j, .int .i64 wh.op, .string wh.tab, .string wh.name, .int .i64 wh.t, .int .i64 wh.c, .int .i64 wh.vk, .int .i64 wh.vi, .string wh.vs, .slice C wh.l.length c, .slice D gr.length d] 66)).alloc (.cells #[.slice A' it'.length k', .slice B' sr'.length j', .int .i64 wh'.op, .string wh'.tab, .string wh'.name, .int .i64 wh'.t, .int .i64 wh'.c, .int .i64 wh'.vk, .int .i64 wh'.vi, .string wh'.vs, .slice C' wh'.l.length c', .slice D' gr'.length d'] 66)) = w1 at *
  generalize w.heap.size + 1 = gb at *
  generalize w.heap.size = ga at *
  obtain ⟨x0, x1, x2, x3, x4, x5, x6, x7, x8, x9, x10, x11, x12⟩ := box12 HBa.out
  obtain ⟨y0, y1, y2, y3, y4, y5, y6, y7, y8, y9, y10, y11, y12⟩ := box12 HBb.out
  go_wp2_with fail
  refine (HC1.out _ HG1.out).grows.mono ?_
  rintro e w2 ⟨rfl, hg2⟩
  have HG2 := Lib.hid (HG1.out.trans hg2)
  have HBa := Lib.hid (HBa.out.grew hg2)
  have HBb := Lib.hid (HBb.out.grew hg2)
  clear hg2 x0 x1 x2 x3 x4 x5 x6 x7 x8 x9 x10 x11 x12 y0 y1 y2 y3 y4 y5 y6 y7 y8 y9 y10 y11 y12 HC1 HG1
  cases t1
  · obtain rfl : t = false := not_true HT.out (fun e => Bool.noConfusion e.1)
    clear HC2 HC3 HBa HBb
    go_wp2
    go_ret
    exact ⟨rfl, HG2.out⟩
  obtain ⟨x0, x1, x2, x3, x4, x5, x6, x7, x8, x9, x10, x11, x12⟩ := box12 HBa.out
  obtain ⟨y0, y1, y2, y3, y4, y5, y6, y7, y8, y9, y10, y11, y12⟩ := box12 HBb.out
  go_wp2_with fail
  refine (HC2.out _ HG2.out).grows.mono ?_
  rintro e w3 ⟨rfl, hg3⟩
  have HG3 := Lib.hid (HG2.out.trans hg3)
  have HBa := Lib.hid (HBa.out.grew hg3)
  have HBb := Lib.hid (HBb.out.grew hg3)
  clear hg3 x0 x1 x2 x3 x4 x5 x6 x7 x8 x9 x10 x11 x12 y0 y1 y2 y3 y4 y5 y6 y7 y8 y9 y10 y11 y12 HC2 HG2
  cases t2
  · obtain rfl : t = false := not_true HT.out (fun e => Bool.noConfusion e.2.1)
    clear HC3 HBa HBb
    go_wp2
    go_ret
    exact ⟨rfl, HG3.out⟩
  obtain ⟨x0, x1, x2, x3, x4, x5, x6, x7, x8, x9, x10, x11, x12⟩ := box12 HBa.out
  obtain ⟨y0, y1, y2, y3, y4, y5, y6, y7, y8, y9, y10, y11, y12⟩ := box12 HBb.out
  go_wp2_with fail
  refine (HC3.out _ HG3.out).grows.mono ?_
  rintro e w4 ⟨rfl, hg4⟩
  have HG4 := Lib.hid (HG3.out.trans hg4)
  have HBa := Lib.hid (HBa.out.grew hg4)
  have HBb := Lib.hid (HBb.out.grew hg4)
  clear hg4 x0 x1 x2 x3 x4 x5 x6 x7 x8 x9 x10 x11 x12 y0 y1 y2 y3 y4 y5 y6 y7 y8 y9 y10 y11 y12 HC3 HG3
  cases t3
  · obtain rfl : t = false := not_true HT.out (fun e => Bool.noConfusion e.2.2.1)
    clear HBa HBb
    go_wp2
    go_ret
    exact ⟨rfl, HG4.out⟩
  have x0 := (box12 HBa.out).lt
  have x2 := (box12 HBa.out).a1
  have y0 := (box12 HBb.out).lt
  have y2 := (box12 HBb.out).a1
  by_cases hl : sr.length = sr'.length
  rotate_left
  · obtain rfl : t = false := not_true HT.out (fun e => hl (by rw [e.2.2.2]))
    have e1 : ((sr.length : Int) != (sr'.length : Int)) = true := by rw [bne_iff_ne]; omega
    clear HBa HBb hl
    go_wp2
    go_ret
    exact ⟨rfl, HG4.out⟩
  have e1 : ((sr.length : Int) != (sr'.length : Int)) = false := by simp [hl]
  have HL := Lib.hid hl
  have HTF : Hid (t = true ↔ sr = sr') := Lib.hid (by rw [HT.out]; simp)
  clear hl HT
  generalize hm : sr.length = m at *
  generalize hm' : sr'.length = m' at *
  obtain rfl : m = m' := HL.out
  have HM := Lib.hid hm
  have HM' := Lib.hid hm'
  clear hm hm' HL
  go_wp2
  clear e1 x0 x2 y0 y2
  go_loopw [5] (fun i wr => RsqAt w sr sr' ga gb #[.slice A it.length k, .slice B m j, .int .i64 wh.op, .string wh.tab, .string wh.name, .int .i64 wh.t, .int .i64 wh.c, .int .i64 wh.vk, .int .i64 wh.vi, .string wh.vs, .slice C wh.l.length c, .slice D gr.length d] #[.slice A' it'.length k', .slice B' m j', .int .i64 wh'.op, .string wh'.tab, .string wh'.name, .int .i64 wh'.t, .int .i64 wh'.c, .int .i64 wh'.vk, .int .i64 wh'.vi, .string wh'.vs, .slice C' wh'.l.length c', .slice D' gr'.length d'] i wr) (fun i _ => m - (intOf i).toNat)
  case atStart => exact ⟨0, Nat.zero_le _, rfl, HG4.out, HBa.out, HBb.out, rfl⟩
  case round =>
    clear HBa HBb HG4
    obtain ⟨i, hi, rfl, hg, hba, hbb, hk⟩ := hrel
    rw [HM.out] at hi
    have HG := Lib.hid hg
    have HK := Lib.hid hk
    have HBa := Lib.hid hba
    have HBb := Lib.hid hbb
    clear hg hk hba hbb
    have x0 := (box12 HBa.out).lt
    have x2 := (box12 HBa.out).a1
    have y0 := (box12 HBb.out).lt
    have y2 := (box12 HBb.out).a1
    by_cases h : i < m
    · have h1 : i < sr.length := by rw [HM.out]; exact h
      have h2 : i < sr'.length := by rw [HM'.out]; exact h
      obtain ⟨ba, oa, PA, ka, rfl, hpa, p0, hc⟩ := frsR_all (RB.out.grew HG.out) h1
      obtain ⟨bb, ob, PB, kb, rfl, hpb, p1, hd⟩ := frsR_all (RB'.out.grew HG.out) h2
      obtain ⟨t2, ht2⟩ := some_bool (sr[i].on = sr'[i].on)
      have HC : Hid (∀ W, Grew wr W → Gives Try.prog 46 #[exV sr[i].on PA ka, exV sr'[i].on PB kb] W (.bool t2)) := Lib.hid fun W hW => rsame_ex 1000000 (Nat.le_refl _) _ _ (HI.out _ (List.getElem_mem h1)) _ _ _ _ t2 ht2 W (hpa.grew hW) (hpb.grew hW)
      have HN : Hid (sr[i] = sr'[i] → sr.take (i + 1) = sr'.take (i + 1)) := Lib.hid fun q => take_same HK.out h1 h2 q
      have HF : Hid (¬ sr[i] = sr'[i] → t = false) := Lib.hid fun q => not_true HTF.out (by
        intro e
        subst e
        exact q rfl)
      have HT2 := Lib.hid ht2
      have a0 : wr.cell? ⟨ba, oa + i * 12, none⟩ = _ := hc 0 _ rfl
      have a1 := hc 1 _ rfl
      have a2 := hc 2 _ rfl
      have a3 := hc 3 _ rfl
      have a4 := hc 4 _ rfl
      have a5 := hc 5 _ rfl
      have a6 := hc 6 _ rfl
      have a7 := hc 7 _ rfl
      have a8 := hc 8 _ rfl
      have a9 := hc 9 _ rfl
      have a10 := hc 10 _ rfl
      have a11 := hc 11 _ rfl
      have d0 : wr.cell? ⟨bb, ob + i * 12, none⟩ = _ := hd 0 _ rfl
      have d1 := hd 1 _ rfl
      have d2 := hd 2 _ rfl
      have d3 := hd 3 _ rfl
      have d4 := hd 4 _ rfl
      have d5 := hd 5 _ rfl
      have d6 := hd 6 _ rfl
      have d7 := hd 7 _ rfl
      have d8 := hd 8 _ rfl
      have d9 := hd 9 _ rfl
      have d10 := hd 10 _ rfl
      have d11 := hd 11 _ rfl
      clear hc hd hpa hpb ht2 HTF HK
      generalize sr[i] = x at *
      generalize sr'[i] = y at *
      clear h1 h2 HI
      unfold exV at HC
      go_upto_region 6 with fail
      go_cut [6, 7] (fun s6 s7 wx => ∃ gx gy, s6 = .pointer (some ⟨gx, 0, none⟩) ∧ s7 = .pointer (some ⟨gy, 0, none⟩) ∧ Blok wx gx 139 (frC x PA ka) ∧ Blok wx gy 139 (frC y PB kb) ∧ Grew wr wx)
      case first =>
        go_region
        all_goals go_wp2_with fail
        all_goals go_meet
        all_goals first
          | exact ⟨_, _, rfl, rfl, ((Blok.new _ _ _ _ (by simp)).alloc _).grew ((Grew.refl _).drew), (Blok.new _ _ _ _ (by simp)).grew ((Grew.refl _).drew), by (show Grew _ _; repeat (first | exact Grew.refl _ | refine Grew.alloc ?_ _ | refine Grew.drew ?_ | refine Grew.more ?_ _))⟩
          | exact ⟨_, _, rfl, rfl, (Blok.new _ _ _ _ (by simp)).grew ((Grew.refl _).drew), ((Blok.new _ _ _ _ (by simp)).alloc _).grew ((Grew.refl _).drew), by (show Grew _ _; repeat (first | exact Grew.refl _ | refine Grew.alloc ?_ _ | refine Grew.drew ?_ | refine Grew.more ?_ _))⟩
      case rest =>
        obtain ⟨gx, gy, rfl, rfl, bx, b_y, hgw⟩ := hcut
        have HBa := Lib.hid (HBa.out.grew hgw)
        have HBb := Lib.hid (HBb.out.grew hgw)
        have HG := Lib.hid (HG.out.trans hgw)
        have HC : Hid (∀ W, Grew wc W → Gives Try.prog 46 #[exV x.on PA ka, exV y.on PB kb] W (.bool t2)) := Lib.hid fun W hW => HC.out W (hgw.trans hW)
        unfold exV at HC
        obtain ⟨z0, c0, c1, c2, _, c3, c4, c5, c6, c7, c8, c9, c10, c11⟩ := blokF bx
        obtain ⟨z1, e0, e1, e2, _, e3, e4, e5, e6, e7, e8, e9, e10, e11⟩ := blokF b_y
        clear bx b_y hgw a0 a1 a2 a3 a4 a5 a6 a7 a8 a9 a10 a11 d0 d1 d2 d3 d4 d5 d6 d7 d8 d9 d10 d11 x0 x2 y0 y2 p0 p1
        obtain ⟨wp, hwp⟩ : ∃ wp : World, wp = wc := ⟨_, rfl⟩
        subst hwp
        by_cases h0 : x.join = y.join
        · have n0 : (x.join != y.join) = false := by rw [h0]; exact bne_self_eq_false _
          by_cases h1 : x.table = y.table
          · have n1 : x.table.toList = y.table.toList := by rw [h1]
            by_cases h2 : x.short = y.short
            · have n2 : x.short.toList = y.short.toList := by rw [h2]
              have HN : Hid (t2 = true → sr.take (i + 1) = sr'.take (i + 1)) := Lib.hid fun q => HN.out ((fr_same _ _).2 ⟨h0, h1, h2, HT2.out.1 q⟩)
              have HF : Hid (t2 = false → t = false) := Lib.hid fun q => HF.out (fun e => by
                have := HT2.out.2 ((fr_same _ _).1 e).2.2.2
                rw [q] at this
                cases this)
              clear h0 h1 h2 HT2
              go_wp2_with fail
              refine (HC.out _ (Grew.refl _)).grows.mono ?_
              rintro e w5 ⟨rfl, hg5⟩
              have HG := Lib.hid (HG.out.trans hg5)
              have HBa := Lib.hid (HBa.out.grew hg5)
              have HBb := Lib.hid (HBb.out.grew hg5)
              clear hg5 HC
              cases t2
              · obtain rfl := HF.out (by first | rfl | trivial)
                go_wp2
                go_ret
                exact ⟨rfl, HG.out⟩
              · go_wp2
                exact ⟨⟨i + 1, by rw [HM.out]; omega, by go_num, HG.out, HBa.out, HBb.out, HN.out (by first | rfl | trivial)⟩, by simp only [intOf]; omega⟩
            · have n2 : ¬ x.short.toList = y.short.toList := fun e => h2 (bytes_ext e)
              obtain rfl := HF.out (fun e => h2 ((fr_same _ _).1 e).2.2.1)
              clear HC HN HF HT2 h0 h1 h2
              go_wp2
              go_ret
              exact ⟨rfl, HG.out⟩
          · have n1 : ¬ x.table.toList = y.table.toList := fun e => h1 (bytes_ext e)
            obtain rfl := HF.out (fun e => h1 ((fr_same _ _).1 e).2.1)
            clear HC HN HF HT2 h0 h1
            go_wp2
            go_ret
            exact ⟨rfl, HG.out⟩
        · have n0 : (x.join != y.join) = true := by rw [bne_iff_ne]; exact h0
          obtain rfl := HF.out (fun e => h0 ((fr_same _ _).1 e).1)
          clear HC HN HF HT2 h0
          go_wp2
          go_ret
          exact ⟨rfl, HG.out⟩
    · obtain rfl : i = m := by omega
      have ht : t = true := HTF.out.2 (by
        have := HK.out
        rw [List.take_of_length_le (Nat.le_of_eq HM.out), List.take_of_length_le (Nat.le_of_eq HM'.out)] at this
        exact this)
      subst ht
      go_wp2
      go_ret
      exact ⟨rfl, HG.out⟩
end Go.Proofs.Ytcokhgomibimcaa
