/- Layer 16: a query's conditions are not too many. No condition. -/
import Derived.Test.YtchogpdfdpbpfaaQNb
import Derived.Test.YtchogpdfdpbpfaaTail
import Derived.Test.YtchogpdfdpbpfaaHead

/- Layer 16: a condition is put where it belongs. Condition: a condition that lies in memory that is there. -/
namespace Go.Proofs.Ytchogpdfdpbpfaa
open Go.RowKit
attribute [local go_sem] more_cell more_frozen more_more more_setCell more_of_drew more_of_drewN lt_more le_more past_cell past_cell2 past_frozen past_frozen2 past_setCell past_setCell2 mid_cell mid_frozen mid_setCell
attribute [local go_sem ↓] Go.wp_at_zero Go.wp_at_succ

theorem setCell_comm (w : World) {a b : Addr} (x y : Value) (h : a.block ≠ b.block) : (w.setCell a x).setCell b y = (w.setCell b y).setCell a x := by
  unfold World.setCell
  simp only
  congr 1
  apply Array.ext_getElem?
  intro i
  simp only [Array.getElem?_modify]
  by_cases h1 : a.block = i
  · have h2 : ¬ b.block = i := fun e => h (h1.trans e.symm)
    simp [h1, h2]
  · by_cases h2 : b.block = i
    · simp [h1, h2]
    · simp [h1, h2]
theorem nine_comm (w : World) {g b j p : Nat} (h : g ≠ b) (x v0 v1 v2 v3 v4 v5 v6 v7 v8 : Value) :
    (((((((((w.setCell ⟨b, p, none⟩ v0).setCell ⟨b, p + 1, none⟩ v1).setCell ⟨b, p + 2, none⟩ v2).setCell ⟨b, p + 3, none⟩ v3).setCell ⟨b, p + 4, none⟩ v4).setCell ⟨b, p + 5, none⟩ v5).setCell ⟨b, p + 6, none⟩ v6).setCell ⟨b, p + 7, none⟩ v7).setCell ⟨b, p + 8, none⟩ v8).setCell ⟨g, j, none⟩ x =
    (((((((((w.setCell ⟨g, j, none⟩ x).setCell ⟨b, p, none⟩ v0).setCell ⟨b, p + 1, none⟩ v1).setCell ⟨b, p + 2, none⟩ v2).setCell ⟨b, p + 3, none⟩ v3).setCell ⟨b, p + 4, none⟩ v4).setCell ⟨b, p + 5, none⟩ v5).setCell ⟨b, p + 6, none⟩ v6).setCell ⟨b, p + 7, none⟩ v7).setCell ⟨b, p + 8, none⟩ v8 := by
  have e : ∀ (w : World) (q : Nat) (v : Value), (w.setCell ⟨b, q, none⟩ v).setCell ⟨g, j, none⟩ x = (w.setCell ⟨g, j, none⟩ x).setCell ⟨b, q, none⟩ v := fun w q v => setCell_comm w v x (Ne.symm h)
  rw [e, e, e, e, e, e, e, e, e]
theorem grown_set {w w' : World} {row : Option Nat} (h : w.grownBy w' row) {a : Addr} (ha : row = some a.block ∨ w.heap.size ≤ a.block) (x : Value) : w.grownBy (w'.setCell a x) row := by
  refine ⟨h.os, h.tape, h.output, by rw [World.size_setCell]; exact h.size, fun i hi hr => ?_⟩
  rw [heap_set _ _ (fun e => by
    rcases ha with ha | ha
    · exact hr (by rw [ha, e])
    · omega)]
  exact h.block i hi hr
theorem grown_nine {w w' : World} {row : Option Nat} {b p : Nat} (h : w.grownBy w' row) (ha : row = some b ∨ w.heap.size ≤ b) (v0 v1 v2 v3 v4 v5 v6 v7 v8 : Value) :
    w.grownBy (((((((((w'.setCell ⟨b, p, none⟩ v0).setCell ⟨b, p + 1, none⟩ v1).setCell ⟨b, p + 2, none⟩ v2).setCell ⟨b, p + 3, none⟩ v3).setCell ⟨b, p + 4, none⟩ v4).setCell ⟨b, p + 5, none⟩ v5).setCell ⟨b, p + 6, none⟩ v6).setCell ⟨b, p + 7, none⟩ v7).setCell ⟨b, p + 8, none⟩ v8) row :=
  grown_set (grown_set (grown_set (grown_set (grown_set (grown_set (grown_set (grown_set (grown_set h ha v0) ha v1) ha v2) ha v3) ha v4) ha v5) ha v6) ha v7) ha v8
theorem incore_any (t core : Int) (w : World) (g : Nat) (a1 a2 a3 a4 a5 : Value) (hb : Blok w g 44 #[.int .i64 core, a1, a2, a3, a4, a5]) :
    Gives Try.prog 43 #[.int .i64 t, .pointer (some ⟨g, 0, none⟩)] w (.bool (decide (0 ≤ t) && decide (t < core))) := by
  have c0 := hb.cell 0
  have hl := hb.lt
  simp at c0
  clear hb
  unfold Gives
  by_cases h1 : 0 ≤ t
  · by_cases h2 : t < core
    · rw [decide_eq_true h1, decide_eq_true h2]
      go_enter Try.func43, Try.ntmps43
      go_wp2
      go_ret
      exact ⟨rfl, by (show Grew _ _; repeat (first | exact Grew.refl _ | refine Grew.alloc ?_ _ | refine Grew.drew ?_ | refine Grew.more ?_ _))⟩
    · rw [decide_eq_true h1, decide_eq_false h2]
      go_enter Try.func43, Try.ntmps43
      go_wp2
      go_ret
      exact ⟨rfl, by (show Grew _ _; repeat (first | exact Grew.refl _ | refine Grew.alloc ?_ _ | refine Grew.drew ?_ | refine Grew.more ?_ _))⟩
  · rw [decide_eq_false h1, Bool.false_and]
    go_enter Try.func43, Try.ntmps43
    go_wp2
    go_ret
    exact ⟨rfl, by (show Grew _ _; repeat (first | exact Grew.refl _ | refine Grew.alloc ?_ _ | refine Grew.drew ?_ | refine Grew.more ?_ _))⟩
theorem row_grown2 {w w' : World} {row : Option Nat} {b o : Nat} {xs : List Value} (h : Row w (some ⟨b, o, none⟩) xs) (k : w.grownBy w' row) (hr : row ≠ some b) : Row w' (some ⟨b, o, none⟩) xs := by
  rcases h with h | ⟨b', o', hA, hlt, hc⟩
  · exact Or.inl h
  · injection hA with hA
    injection hA with h1 h2 _
    subst h1 h2
    refine Or.inr ⟨b, o, rfl, Nat.lt_of_lt_of_le hlt k.size, fun j u hu => ?_⟩
    rw [← hc j u hu]
    simp only [World.cell?, k.block b hlt (fun e => hr e.symm)]
theorem scan_kept {pr : Nat → Prop} {u v w w' : World} {base g : Nat} {core : Int} {sc : List (List Ex)} {es : List Ed} {rs wh : List Ex} {A : Option Addr} {k : Nat} {vs : List Value} {vE vR vL vW : Value} {cs ec : Array Value} {bx bu ou b0 n : Nat} {is : List Value} {vq : Value} {xs : List Value} {W0 : World}
    (h : Blok w g 44 cs ∧ Blok w bx 27 ec ∧ Row w (some ⟨bu, ou, none⟩) is ∧ w.ownsRow base 22 1 (.slice (some ⟨b0, 0, none⟩) vs.length k) vs.length vs) (hg : w.grownBy w' vq.ownBlock)
    (hn : Nst pr u v w base g core sc es rs wh A k vs vE vR vL vW) (ho : W0.ownsRow base 27 9 vq n xs) (hW : ∀ q, vq.ownBlock = some q → w.ownsRow base 27 9 vq n xs) (hl : ∀ i, vq.ownBlock = some i → i < bx) (hb : bx < bu) :
    Blok w' g 44 cs ∧ Blok w' bx 27 ec ∧ Row w' (some ⟨bu, ou, none⟩) is ∧ w'.ownsRow base 22 1 (.slice (some ⟨b0, 0, none⟩) vs.length k) vs.length vs := by
  have hbb := own_base ho
  have l2 := hn.low.2
  refine ⟨h.1.grown hg fun e => by have := hbb g e; omega, h.2.1.grown hg fun e => Nat.lt_irrefl _ (hl bx e), row_grown2 h.2.2.1 hg fun e => by have := hl bu e; omega, own_grown h.2.2.2 hg fun b hb' e => type_apart h.2.2.2 (hW b e.symm) (by decide) b hb' e.symm⟩
/-- One more condition has been put where it belongs. -/
def PutF (pr : Nat → Prop) (u v : World) (base g : Nat) (core : Nat) (AS : Option Addr) (kS : Nat) (vL : Value) (l : List Ex) (e : Ending) (w' : World) : Prop :=
  e = .returned (.tuple #[]) ∧ ∃ vs vE vR vW, Nst pr u v w' base g core (nS core l) (nE core l) (nR core l) (nW core l) AS kS vs vE vR vL vW
set_option maxHeartbeats 16000000 in
set_option maxRecDepth 100000 in
theorem put_any (x : Ex) (PA : Option Addr) (ka : Nat) (pr : Nat → Prop) (u v w : World) (base g core : Nat) (l : List Ex) (AS : Option Addr) (kS : Nat) (vs : List Value) (vE vR vL vW : Value) (hx : x.nodes ≤ 1000000) (hl : l.length ≤ 1000000) (ra : ExsR (PRow u) PA x.l)
    (hs : Nst pr u v w base g core (nS core l) (nE core l) (nR core l) (nW core l) AS kS vs vE vR vL vW) :
    Calls Try.prog 44 #[.pointer (some ⟨g, 0, none⟩), exV x PA ka, .func (.func 43) #[] #[.pointer (some ⟨g, 0, none⟩)]] w (PutF pr u v base g core AS kS vL (l ++ [x])) := by
  have HUs : Hid (∀ W, Grew u W → Calls Try.prog 11 #[exV x PA ka] W (OwnI W (useX x))) := Lib.hid fun W hW => uses_any x PA ka hx W (ra.grew hW)
  have HEd : Hid (∀ W, Grew u W → Gives Try.prog 9 #[exV x PA ka] W (.tuple #[edV (edgeP x).1, .bool (edgeP x).2])) := Lib.hid fun W hW => edge_any x PA ka W (ra.grew hW)
  have HPA := Lib.hid ra
  have hfl : ∀ p : Ex → Bool, (l.filter p).length ≤ 1000000 := fun p => Nat.le_trans (List.length_filter_le p l) hl
  have lR : (nR core l).length ≤ 1000000 := hfl _
  have lW : (nW core l).length ≤ 1000000 := hfl _
  have lE : (nE core l).length ≤ 1000000 := by unfold nE; rw [List.length_map]; exact hfl _
  have lT : ∀ t, (nT core t l).length ≤ 1000000 := fun t => hfl _
  have HFin : Hid (∀ W vs vE vR vW, Nst pr u v W base g core (nS core (l ++ [x])) (nE core (l ++ [x])) (nR core (l ++ [x])) (nW core (l ++ [x])) AS kS vs vE vR vL vW → PutF pr u v base g core AS kS vL (l ++ [x]) (.returned (.tuple #[])) W) := Lib.hid fun W vs vE vR vW h => ⟨rfl, vs, vE, vR, vW, h⟩
  have HW0 : Hid (whereI x core = 0 → ∀ W vs vE vR vW, Nst pr u v W base g core (nS core l) (nE core l) (nR core l ++ [x]) (nW core l) AS kS vs vE vR vL vW → Nst pr u v W base g core (nS core (l ++ [x])) (nE core (l ++ [x])) (nR core (l ++ [x])) (nW core (l ++ [x])) AS kS vs vE vR vL vW) := Lib.hid fun h W vs vE vR vW hn => by
    rw [nS_other core l (by omega), nE_snoc, nR_snoc, nW_snoc, if_neg (by omega), if_pos h, if_neg (by omega), List.append_nil, List.append_nil]
    exact hn
  have HW1 : Hid (whereI x core = 1 → ∀ W vs vE vR vW, Nst pr u v W base g core (nS core l) (nE core l) (nR core l) (nW core l ++ [x]) AS kS vs vE vR vL vW → Nst pr u v W base g core (nS core (l ++ [x])) (nE core (l ++ [x])) (nR core (l ++ [x])) (nW core (l ++ [x])) AS kS vs vE vR vL vW) := Lib.hid fun h W vs vE vR vW hn => by
    rw [nS_other core l (by omega), nE_snoc, nR_snoc, nW_snoc, if_neg (by omega), if_neg (by omega), if_pos h, List.append_nil, List.append_nil]
    exact hn
  have HW3 : Hid (whereI x core = 3 → ∀ W vs vE vR vW, Nst pr u v W base g core (nS core l) (nE core l ++ [(edgeP x).1]) (nR core l) (nW core l) AS kS vs vE vR vL vW → Nst pr u v W base g core (nS core (l ++ [x])) (nE core (l ++ [x])) (nR core (l ++ [x])) (nW core (l ++ [x])) AS kS vs vE vR vL vW) := Lib.hid fun h W vs vE vR vW hn => by
    rw [nS_other core l (by omega), nE_snoc, nR_snoc, nW_snoc, if_pos h, if_neg (by omega), if_neg (by omega), List.append_nil, List.append_nil]
    exact hn
  have HW2 : Hid (whereI x core = 2 → ∀ t : Nat, useX x = [(t : Int)] → ∀ W vs vE vR vW, Nst pr u v W base g core ((nS core l).set t (nT core t l ++ [x])) (nE core l) (nR core l) (nW core l) AS kS vs vE vR vL vW → Nst pr u v W base g core (nS core (l ++ [x])) (nE core (l ++ [x])) (nR core (l ++ [x])) (nW core (l ++ [x])) AS kS vs vE vR vL vW) := Lib.hid fun h t ht W vs vE vR vW hn => by
    rw [nS_scan core l h ht, nE_snoc, nR_snoc, nW_snoc, if_neg (by omega), if_neg (by omega), if_neg (by omega), List.append_nil, List.append_nil, List.append_nil]
    exact hn
  have HSat : Hid (∀ t : Nat, t < core → (nS core l)[t]? = some (nT core t l)) := Lib.hid fun t ht => nS_at core l ht
  have HSl : Hid ((nS core l).length = core) := Lib.hid (nS_len core l)
  have HRis := Lib.hid (setI_rising (x.cols.map Ex.t))
  have HEU : Hid ((edgeP x).2 = true → useX x ≠ []) := Lib.hid edge_uses
  have HWd : Hid (whereI x core = if outI (useX x) core then 1 else if (useX x).length = 1 then 2 else if (edgeP x).2 then 3 else 0) := Lib.hid rfl
  have hlu : (useX x).length ≤ 1000000 := Nat.le_trans (useX_len x) hx
  have HN := Lib.hid hs
  change Hid (Rising (useX x)) at HRis
  clear hs ra hfl
  generalize nS core l = sc at *
  generalize nE core l = es at *
  generalize nR core l = rs at *
  generalize nW core l = wh at *
  generalize whereI x core = wi at *
  generalize useX x = us at *
  generalize edgeP x = ed at *
  obtain ⟨⟨e1, e2, e3, e4⟩, is⟩ := ed
  simp only at HEU HWd HW3
  unfold exV edV at *
  go_enter Try.func44, Try.ntmps44
  go_upto_region 1 with fail
  have HS0 := Lib.hid (HN.out.more ((Grew.refl w).alloc (.cells #[.int .i64 x.op, .string x.tab, .string x.name, .int .i64 x.t, .int .i64 x.c, .int .i64 x.vk, .int .i64 x.vi, .string x.vs, .slice PA x.l.length ka] 27)))
  have HB0 : Hid (Blok (w.alloc (.cells #[.int .i64 x.op, .string x.tab, .string x.name, .int .i64 x.t, .int .i64 x.c, .int .i64 x.vk, .int .i64 x.vi, .string x.vs, .slice PA x.l.length ka] 27)) w.heap.size 27 #[.int .i64 x.op, .string x.tab, .string x.name, .int .i64 x.t, .int .i64 x.c, .int .i64 x.vk, .int .i64 x.vi, .string x.vs, .slice PA x.l.length ka]) := Lib.hid (Blok.new _ _ _ _ rfl)
  have hbx0 : w.heap.size < (w.alloc (.cells #[.int .i64 x.op, .string x.tab, .string x.name, .int .i64 x.t, .int .i64 x.c, .int .i64 x.vk, .int .i64 x.vi, .string x.vs, .slice PA x.l.length ka] 27)).heap.size := HB0.out.lt
  have hbxg : base ≤ w.heap.size := HN.out.size
  have HLR : Hid (∀ i, vR.ownBlock = some i → i < w.heap.size) := Lib.hid (by obtain ⟨_, _, h⟩ := (HN.out.bins.each 0 vR rs rfl rfl).own; exact own_lt h)
  have HLW : Hid (∀ i, vW.ownBlock = some i → i < w.heap.size) := Lib.hid (by obtain ⟨_, _, h⟩ := (HN.out.bins.each 1 vW wh rfl rfl).own; exact own_lt h)
  have HLE : Hid (∀ i, vE.ownBlock = some i → i < w.heap.size) := Lib.hid (by obtain ⟨_, _, rfl, h⟩ := HN.out.edges; exact own_lt h)
  have HLS : Hid (∀ (q : Nat) (vq : Value) (lq : List Ex), vs[q]? = some vq → sc[q]? = some lq → ∀ i, vq.ownBlock = some i → i < w.heap.size) := Lib.hid (fun q vq lq hv hq => by obtain ⟨_, _, h⟩ := (HN.out.bins.each (q + 2) vq lq (by simpa using hv) (by simpa using hq)).own; exact own_lt h)
  clear HN
  generalize (w.alloc (.cells #[.int .i64 x.op, .string x.tab, .string x.name, .int .i64 x.t, .int .i64 x.c, .int .i64 x.vk, .int .i64 x.vi, .string x.vs, .slice PA x.l.length ka] 27)) = W0 at *
  generalize w.heap.size = bx at *
  obtain ⟨q0, s0, s1, s2, s3, s4, s5, s6, s7, s8⟩ := blok9c HB0.out
  go_upto_region 2 with (go_at_call 11; (with_reducible refine (HUs.out _ HS0.out.grew).mono ?_); rintro e W6 ⟨B6, c6, rfl, hg6, ho6⟩; have HS6 := Lib.hid (HS0.out.more hg6); have HB6 := Lib.hid (HB0.out.grew hg6); have HR6 : Hid (Row W6 B6 (iV us)) := Lib.hid (own_rowI ho6); have HUo : Hid (∀ i, (Value.slice B6 us.length c6).ownBlock = some i → bx < i) := Lib.hid (fun i hi => Nat.lt_of_lt_of_le hbx0 (own_base ho6 i hi)); clear hg6 ho6)
  clear HS0 HB0 q0 s0 s1 s2 s3 s4 s5 s6 s7 s8 HUs
  obtain ⟨q0, s0, s1, s2, s3, s4, s5, s6, s7, s8⟩ := blok9c HB6.out
  go_upto_region 4 with (go_at_call 9; (with_reducible refine (HEd.out _ HS6.out.grew).grows.mono ?_); rintro e W8 ⟨rfl, hg8⟩; have HG8 := Lib.hid hg8; clear hg8)
  have HS := Lib.hid ((HS6.out.more HG8.out).more ((Grew.refl W8).alloc (.cells #[.int .i64 e1, .int .i64 e2, .int .i64 e3, .int .i64 e4] 34)))
  have HBX := Lib.hid ((HB6.out.grew HG8.out).grew ((Grew.refl W8).alloc (.cells #[.int .i64 e1, .int .i64 e2, .int .i64 e3, .int .i64 e4] 34)))
  have HRU := Lib.hid ((HR6.out.grew HG8.out).grew ((Grew.refl W8).alloc (.cells #[.int .i64 e1, .int .i64 e2, .int .i64 e3, .int .i64 e4] 34)))
  have HBE : Hid (Blok (W8.alloc (.cells #[.int .i64 e1, .int .i64 e2, .int .i64 e3, .int .i64 e4] 34)) W8.heap.size 34 #[.int .i64 e1, .int .i64 e2, .int .i64 e3, .int .i64 e4]) := Lib.hid (Blok.new _ _ _ _ rfl)
  have hbe : bx < W8.heap.size := (HB6.out.grew HG8.out).lt
  clear HS6 HB6 HR6 q0 s0 s1 s2 s3 s4 s5 s6 s7 s8 HG8 HEd
  generalize (W8.alloc (.cells #[.int .i64 e1, .int .i64 e2, .int .i64 e3, .int .i64 e4] 34)) = W at *
  generalize W8.heap.size = be at *
  have hul := HS.out.low.1
  have hgb := HS.out.low.2
  by_cases h0 : us = []
  · subst h0
    have his : is = false := by
      cases is
      · rfl
      · exact absurd rfl (HEU.out rfl)
    subst his
    have hwi : wi = 0 := by rw [HWd.out]; simp [outI]
    subst hwi
    have HWp := Lib.hid (HW0.out rfl)
    clear HW0 HW1 HW2 HW3 HWd HEU HRis HSat HSl HRU lE lT lW
    go_upto_region 5 with fail
    obtain ⟨AN, cN, hvN, css, hcs, hoN⟩ := HS.out.bins.each 0 vR rs rfl rfl
    subst hvN
    have HCS := Lib.hid hcs
    have HON := Lib.hid hoN
    have hlen := hcs.flat
    clear hcs hoN
    have HD := Lib.hid (HS.out.more (Grew.refl W).drew)
    have hS0 : Blok W.drew g 44 #[.int .i64 core, .slice AS vs.length kS, vE, (.slice AN rs.length cN), vL, vW] ∧ Blok W.drew bx 27 #[.int .i64 x.op, .string x.tab, .string x.name, .int .i64 x.t, .int .i64 x.c, .int .i64 x.vk, .int .i64 x.vi, .string x.vs, .slice PA x.l.length ka] := ⟨HD.out.blk, HBX.out.grew (Grew.refl W).drew⟩
    refine wp_region_tail (fun W => Blok W g 44 #[.int .i64 core, .slice AS vs.length kS, vE, (.slice AN rs.length cN), vL, vW] ∧ Blok W bx 27 #[.int .i64 x.op, .string x.tab, .string x.name, .int .i64 x.t, .int .i64 x.c, .int .i64 x.vk, .int .i64 x.vi, .string x.vs, .slice PA x.l.length ka]) 8 5 rfl (by kernel_rfl) ?_
    refine tail_take 0 (v := ?_) rfl (by kernel_rfl) (by kernel_rfl) (by kernel_rfl) (by kernel_rfl) (fun _ _ _ h => h) (by rfl) ?_ hS0 ?_
    rotate_left
    · (intro W hW; go_simp; with_reducible rfl)
    refine tail_norm (a' := ?_) ?_ ?_
    rotate_left
    · (go_simp; with_reducible rfl)
    refine tail_take 1 (v := ?_) rfl (by kernel_rfl) (by kernel_rfl) (by kernel_rfl) (by kernel_rfl) (fun _ _ _ h => h) (by rfl) ?_ hS0 ?_
    rotate_left
    · (intro W hW; go_simp; with_reducible rfl)
    refine tail_norm (a' := ?_) ?_ ?_
    rotate_left
    · (go_simp; with_reducible rfl)
    refine tail_take 2 (v := ?_) rfl (by kernel_rfl) (by kernel_rfl) (by kernel_rfl) (by kernel_rfl) (fun _ _ _ h => h) (by rfl) ?_ hS0 ?_
    rotate_left
    · (intro W hW; go_simp; with_reducible rfl)
    refine tail_norm (a' := ?_) ?_ ?_
    rotate_left
    · (go_simp; with_reducible rfl)
    refine tail_take 3 (v := ?_) rfl (by kernel_rfl) (by kernel_rfl) (by kernel_rfl) (by kernel_rfl) (fun _ _ _ h => h) (by rfl) ?_ hS0 ?_
    rotate_left
    · (intro W hW; have q := hW.1.cell 3; have ql := hW.1.lt; simp at q; go_simp; with_reducible rfl)
    refine tail_norm (a' := ?_) ?_ ?_
    rotate_left
    · (go_simp; with_reducible rfl)
    refine tail_take 4 (v := ?_) rfl (by kernel_rfl) (by kernel_rfl) (by kernel_rfl) (by kernel_rfl) (fun _ _ _ h => h) (by rfl) ?_ hS0 ?_
    rotate_left
    · (intro W hW; obtain ⟨ql, q0, q1, q2, q3, q4, q5, q6, q7, q8⟩ := blok9c hW.2; go_simp; with_reducible rfl)
    refine tail_norm (a' := ?_) ?_ ?_
    rotate_left
    · (go_simp; with_reducible rfl)
    refine tail_take 5 (v := ?_) rfl (by kernel_rfl) (by kernel_rfl) (by kernel_rfl) (by kernel_rfl) (fun _ _ _ h => h) (by rfl) ?_ hS0 ?_
    rotate_left
    · (intro W hW; go_simp; with_reducible rfl)
    refine tail_norm (a' := ?_) ?_ ?_
    rotate_left
    · (go_simp; with_reducible rfl)
    refine tail_call 6 (by kernel_rfl) (by kernel_rfl) rfl (by rfl) (fun K hK => ?_)
    go_simp
    go_wp2_with fail
    have HDa := Lib.hid (HD.out.more ((Grew.refl W.drew).alloc (.cells #[.int .i64 0, .string ⟨#[]⟩, .string ⟨#[]⟩, .int .i64 0, .int .i64 0, .int .i64 0, .int .i64 0, .string ⟨#[]⟩, .slice none 0 0] 27)))
    have hSa : Blok (W.drew.alloc (.cells #[.int .i64 0, .string ⟨#[]⟩, .string ⟨#[]⟩, .int .i64 0, .int .i64 0, .int .i64 0, .int .i64 0, .string ⟨#[]⟩, .slice none 0 0] 27)) g 44 #[.int .i64 core, .slice AS vs.length kS, vE, (.slice AN rs.length cN), vL, vW] ∧ Blok (W.drew.alloc (.cells #[.int .i64 0, .string ⟨#[]⟩, .string ⟨#[]⟩, .int .i64 0, .int .i64 0, .int .i64 0, .int .i64 0, .string ⟨#[]⟩, .slice none 0 0] 27)) bx 27 #[.int .i64 x.op, .string x.tab, .string x.name, .int .i64 x.t, .int .i64 x.c, .int .i64 x.vk, .int .i64 x.vi, .string x.vs, .slice PA x.l.length ka] := ⟨HDa.out.blk, hS0.2.alloc _⟩
    refine hK.out _ _ hSa ?_
    clear hK K
    refine tail_call 7 (by kernel_rfl) (by kernel_rfl) rfl (by rfl) (fun K hK => ?_)
    refine wp_appC (.tmp 34) (.tmp 37) 22 27 9 rfl base (.agg #[.int .i64 0, .string ⟨#[]⟩, .string ⟨#[]⟩, .int .i64 0, .int .i64 0, .int .i64 0, .int .i64 0, .string ⟨#[]⟩, .slice none 0 0]) 112 Try.underlying22 infoE rfl (by decide) (by decide) _ rs.length _ rfl (own_alloc (own_grewE HON.out (Grew.refl W).drew) _) _ 1 1 [.int .i64 0, .string ⟨#[]⟩, .string ⟨#[]⟩, .int .i64 0, .int .i64 0, .int .i64 0, .int .i64 0, .string ⟨#[]⟩, .slice none 0 0] rfl rfl (row_new W.drew _ _ #[.int .i64 0, .string ⟨#[]⟩, .string ⟨#[]⟩, .int .i64 0, .int .i64 0, .int .i64 0, .int .i64 0, .string ⟨#[]⟩, .slice none 0 0] rfl) (by intro u hu; simp only [List.mem_cons, List.not_mem_nil, or_false] at hu; rcases hu with rfl | rfl | rfl | rfl | rfl | rfl | rfl | rfl | rfl <;> rfl) (by omega) HDa.out.size ?_
    intro A6 c6 w6 ho6 hg6 hor6
    have hbb := own_base HON.out
    have hbx2 : (Value.slice AN rs.length cN).ownBlock ≠ some bx := fun e => Nat.lt_irrefl _ (HLR.out bx e)
    have hS6 : Blok w6 g 44 #[.int .i64 core, .slice AS vs.length kS, vE, (.slice AN rs.length cN), vL, vW] ∧ Blok w6 bx 27 #[.int .i64 x.op, .string x.tab, .string x.name, .int .i64 x.t, .int .i64 x.c, .int .i64 x.vk, .int .i64 x.vi, .string x.vs, .slice PA x.l.length ka] := ⟨hSa.1.grown hg6 (fun e => by have := hbb g e; omega), hSa.2.grown hg6 hbx2⟩
    refine hK.out _ _ hS6 ?_
    clear hK K
    refine tail_done (by kernel_rfl) ?_
    obtain ⟨gb, cap, hv, hgb1, hgb2⟩ := World.ownsRow.form ho6 (by omega)
    injection hv with hv1 _ hv3
    subst hv1 hv3
    have hlt1 : (rs.length : Int) < (rs.length : Int) + 1 := by omega
    refine wpAny_take (i := 8) (v := ?_) rfl (by kernel_rfl) (by kernel_rfl) (by kernel_rfl) (fun _ _ _ h => h) (Or.inl ⟨by rfl, ?_⟩) ?_
    rotate_left
    · (intro w; go_simp; with_reducible rfl)
    refine wpAny_take (i := 10) (v := ?_) rfl (by kernel_rfl) (by kernel_rfl) (by kernel_rfl) (fun _ _ _ h => h) (Or.inl ⟨by rfl, ?_⟩) ?_
    rotate_left
    · (intro w; go_simp; with_reducible rfl)
    refine wpAny_take (i := 11) (v := ?_) rfl (by kernel_rfl) (by kernel_rfl) (by kernel_rfl) (fun _ _ _ h => h) (Or.inl ⟨by rfl, ?_⟩) ?_
    rotate_left
    · (intro w; go_simp; with_reducible rfl)
    have z0 := ho6.frozenAt (rs.length * 9)
    have z1 := ho6.frozenAt (rs.length * 9 + 1)
    have z2 := ho6.frozenAt (rs.length * 9 + 2)
    have z3 := ho6.frozenAt (rs.length * 9 + 3)
    have z4 := ho6.frozenAt (rs.length * 9 + 4)
    have z5 := ho6.frozenAt (rs.length * 9 + 5)
    have z6 := ho6.frozenAt (rs.length * 9 + 6)
    have z7 := ho6.frozenAt (rs.length * 9 + 7)
    have z8 := ho6.frozenAt (rs.length * 9 + 8)
    obtain ⟨q0, q1, q2, q3, q4, q5, q6, q7, q8⟩ := cells_nine ho6 hlen (by omega)
    have hcz := hS6.1.thaw 3
    have hcc := hS6.1.cell 3
    simp at hcc
    have hcl := hS6.1.lt
    have hggb : g ≠ gb := by omega
    have HB6 := Lib.hid hS6.1
    have HO7 := Lib.hid (own_nine ho6 hlen (.int .i64 x.op) (.string x.tab) (.string x.name) (.int .i64 x.t) (.int .i64 x.c) (.int .i64 x.vk) (.int .i64 x.vi) (.string x.vs) (.slice PA x.l.length ka))
    have HG7 := Lib.hid (grown_nine (p := rs.length * 9) hg6 (hor6.elim (fun h => Or.inl h.symm) (fun h => Or.inr (by cases h; exact Nat.le_refl _))) (.int .i64 x.op) (.string x.tab) (.string x.name) (.int .i64 x.t) (.int .i64 x.c) (.int .i64 x.vk) (.int .i64 x.vi) (.string x.vs) (.slice PA x.l.length ka))
    have HSf := Lib.hid (HDa.out.putR HCS.out HPA.out (x := x) (ka := ka) HO7.out HG7.out hor6)
    have HB7 := Lib.hid (HB6.out.nine (p := rs.length * 9) hggb (.int .i64 x.op) (.string x.tab) (.string x.name) (.int .i64 x.t) (.int .i64 x.c) (.int .i64 x.vk) (.int .i64 x.vi) (.string x.vs) (.slice PA x.l.length ka))
    have HCm := Lib.hid (nine_comm w6 (g := g) (b := gb) (j := 3) (p := rs.length * 9) hggb (.slice (some ⟨gb, 0, none⟩) (rs.length + 1) c6) (.int .i64 x.op) (.string x.tab) (.string x.name) (.int .i64 x.t) (.int .i64 x.c) (.int .i64 x.vk) (.int .i64 x.vi) (.string x.vs) (.slice PA x.l.length ka))
    clear hS0 hSa hS6 HD HDa HON HO7 HG7 HBX hbb hbx2 hor6 hg6 HS
    refine wpAny_ready (rs := [9, 12]) (by kernel_rfl) (by simp) ?_
    refine AllReady.cons rfl (fun K hK => ?_) (AllReady.cons rfl (fun K hK => ?_) AllReady.nil)
    · have HK := Lib.hid hK
      clear hK
      go_simp
      refine HK.out _ _ ?_
      clear HK K z0 z1 z2 z3 z4 z5 z6 z7 z8 q0 q1 q2 q3 q4 q5 q6 q7 q8 hcz hcc hcl HCm ho6 HB6
      generalize (((((((((w6.setCell ⟨gb, rs.length * 9, none⟩ (.int .i64 x.op)).setCell ⟨gb, rs.length * 9 + 1, none⟩ (.string x.tab)).setCell ⟨gb, rs.length * 9 + 2, none⟩ (.string x.name)).setCell ⟨gb, rs.length * 9 + 3, none⟩ (.int .i64 x.t)).setCell ⟨gb, rs.length * 9 + 4, none⟩ (.int .i64 x.c)).setCell ⟨gb, rs.length * 9 + 5, none⟩ (.int .i64 x.vk)).setCell ⟨gb, rs.length * 9 + 6, none⟩ (.int .i64 x.vi)).setCell ⟨gb, rs.length * 9 + 7, none⟩ (.string x.vs)).setCell ⟨gb, rs.length * 9 + 8, none⟩ (.slice PA x.l.length ka)) = W7 at *
      have hcz := HB7.out.thaw 3
      have hcc := HB7.out.cell 3
      simp at hcc
      have hcl := HB7.out.lt
      refine wpAny_ready (rs := [12]) (by kernel_rfl) (by simp) ?_
      refine AllReady.cons rfl (fun K hK => ?_) AllReady.nil
      have HK := Lib.hid hK
      clear hK
      go_simp
      refine HK.out _ _ ?_
      clear HK K
      refine ⟨by kernel_rfl, ?_⟩
      have HF := Lib.hid (HFin.out _ _ _ _ _ (HWp.out _ _ _ _ _ HSf.out))
      clear HSf HFin hcz hcc hcl HB7
      go_wp2
      first | go_end0 | skip
      exact HF.out
    · have HK := Lib.hid hK
      clear hK
      go_simp
      refine HK.out _ _ ?_
      clear HK K z0 z1 z2 z3 z4 z5 z6 z7 z8 q0 q1 q2 q3 q4 q5 q6 q7 q8
      have HO8 := Lib.hid (ownsRow_setCell_below ho6 (a := ⟨g, 3, none⟩) hgb (.slice (some ⟨gb, 0, none⟩) (rs.length + 1) c6))
      have HF := Lib.hid (HFin.out _ _ _ _ _ (HWp.out _ _ _ _ _ HSf.out))
      have HF2 : Hid (PutF pr u v base g core AS kS vL (l ++ [x]) (.returned (.tuple #[])) _) := Lib.hid (HCm.out ▸ HF.out)
      clear HF HSf HFin hcz hcc hcl HB7 HB6 HCm ho6
      generalize (w6.setCell ⟨g, 3, none⟩ (.slice (some ⟨gb, 0, none⟩) (rs.length + 1) c6)) = W8 at *
      have z0 := HO8.out.frozenAt (rs.length * 9)
      have z1 := HO8.out.frozenAt (rs.length * 9 + 1)
      have z2 := HO8.out.frozenAt (rs.length * 9 + 2)
      have z3 := HO8.out.frozenAt (rs.length * 9 + 3)
      have z4 := HO8.out.frozenAt (rs.length * 9 + 4)
      have z5 := HO8.out.frozenAt (rs.length * 9 + 5)
      have z6 := HO8.out.frozenAt (rs.length * 9 + 6)
      have z7 := HO8.out.frozenAt (rs.length * 9 + 7)
      have z8 := HO8.out.frozenAt (rs.length * 9 + 8)
      obtain ⟨q0, q1, q2, q3, q4, q5, q6, q7, q8⟩ := cells_nine HO8.out hlen (by omega)
      have hgl8 : gb < W8.heap.size := own_lt HO8.out gb rfl
      refine wpAny_ready (rs := [9]) (by kernel_rfl) (by simp) ?_
      refine AllReady.cons rfl (fun K hK => ?_) AllReady.nil
      have HK := Lib.hid hK
      clear hK
      go_simp
      refine HK.out _ _ ?_
      clear HK K
      refine ⟨by kernel_rfl, ?_⟩
      clear z0 z1 z2 z3 z4 z5 z6 z7 z8 q0 q1 q2 q3 q4 q5 q6 q7 q8 HO8
      generalize (((((((((W8.setCell ⟨gb, rs.length * 9, none⟩ (.int .i64 x.op)).setCell ⟨gb, rs.length * 9 + 1, none⟩ (.string x.tab)).setCell ⟨gb, rs.length * 9 + 2, none⟩ (.string x.name)).setCell ⟨gb, rs.length * 9 + 3, none⟩ (.int .i64 x.t)).setCell ⟨gb, rs.length * 9 + 4, none⟩ (.int .i64 x.c)).setCell ⟨gb, rs.length * 9 + 5, none⟩ (.int .i64 x.vk)).setCell ⟨gb, rs.length * 9 + 6, none⟩ (.int .i64 x.vi)).setCell ⟨gb, rs.length * 9 + 7, none⟩ (.string x.vs)).setCell ⟨gb, rs.length * 9 + 8, none⟩ (.slice PA x.l.length ka)) = W9 at *
      go_wp2
      first | go_end0 | skip
      exact HF2.out
  · obtain ⟨n, hn⟩ : ∃ n, us.length = n + 1 := ⟨us.length - 1, by have := List.length_pos_iff.2 h0; omega⟩
    have hn0 : 0 < us.length := by omega
    have hend := outI_ends HRis.out hn0 core
    have hnn : us.length - 1 = n := by omega
    simp only [hnn] at hend
    have hnl : n < us.length := by omega
    have hn6 : n ≤ 1000000 := by omega
    obtain ⟨bu, ou, rfl, hbu, hc0⟩ := rowI_at HRU.out hn0
    obtain ⟨bu', ou', hbo, _, hcn⟩ := rowI_at HRU.out hnl
    injection hbo with hbo
    injection hbo with hbo1 hbo2 _
    subst hbo1 hbo2
    rw [Nat.add_zero] at hc0
    have HI0 := Lib.hid (fun W h => incore_any us[0] core W g (.slice AS vs.length kS) vE vR vL vW h)
    have HI1 := Lib.hid (fun W h => incore_any us[n] core W g (.slice AS vs.length kS) vE vR vL vW h)
    by_cases hb0 : (decide ((0 : Int) ≤ us[0]) && decide (us[0] < (core : Int))) = true
    rotate_left
    · have hb0' : (decide ((0 : Int) ≤ us[0]) && decide (us[0] < (core : Int))) = false := by simpa using hb0
      have hwi : wi = 1 := by rw [HWd.out, hend, hb0']; simp
      subst hwi
      rw [hb0'] at HI0
      have HWp := Lib.hid (HW1.out rfl)
      clear HW0 HW1 HW2 HW3 HWd HEU HRis HSat HSl HRU lE lT lR hb0 hb0' hend hcn HI1
      rw [hn]
      generalize us[0] = y0 at *
      go_upto_region 7 with (go_at_call 43; (with_reducible refine (HI0.out _ HS.out.blk).grows.mono ?_); rintro e W ⟨rfl, hgn⟩; have HS := Lib.hid (HS.out.more hgn); have HBX := Lib.hid (HBX.out.grew hgn); clear hgn)
      go_upto_region 7 with fail
      obtain ⟨AN, cN, hvN, css, hcs, hoN⟩ := HS.out.bins.each 1 vW wh rfl rfl
      subst hvN
      have HCS := Lib.hid hcs
      have HON := Lib.hid hoN
      have hlen := hcs.flat
      clear hcs hoN
      have HD := Lib.hid (HS.out.more (Grew.refl W).drew)
      have hS0 : Blok W.drew g 44 #[.int .i64 core, .slice AS vs.length kS, vE, vR, vL, (.slice AN wh.length cN)] ∧ Blok W.drew bx 27 #[.int .i64 x.op, .string x.tab, .string x.name, .int .i64 x.t, .int .i64 x.c, .int .i64 x.vk, .int .i64 x.vi, .string x.vs, .slice PA x.l.length ka] := ⟨HD.out.blk, HBX.out.grew (Grew.refl W).drew⟩
      refine wp_region_tail (fun W => Blok W g 44 #[.int .i64 core, .slice AS vs.length kS, vE, vR, vL, (.slice AN wh.length cN)] ∧ Blok W bx 27 #[.int .i64 x.op, .string x.tab, .string x.name, .int .i64 x.t, .int .i64 x.c, .int .i64 x.vk, .int .i64 x.vi, .string x.vs, .slice PA x.l.length ka]) 8 5 rfl (by kernel_rfl) ?_
      refine tail_take 0 (v := ?_) rfl (by kernel_rfl) (by kernel_rfl) (by kernel_rfl) (by kernel_rfl) (fun _ _ _ h => h) (by rfl) ?_ hS0 ?_
      rotate_left
      · (intro W hW; go_simp; with_reducible rfl)
      refine tail_norm (a' := ?_) ?_ ?_
      rotate_left
      · (go_simp; with_reducible rfl)
      refine tail_take 1 (v := ?_) rfl (by kernel_rfl) (by kernel_rfl) (by kernel_rfl) (by kernel_rfl) (fun _ _ _ h => h) (by rfl) ?_ hS0 ?_
      rotate_left
      · (intro W hW; go_simp; with_reducible rfl)
      refine tail_norm (a' := ?_) ?_ ?_
      rotate_left
      · (go_simp; with_reducible rfl)
      refine tail_take 2 (v := ?_) rfl (by kernel_rfl) (by kernel_rfl) (by kernel_rfl) (by kernel_rfl) (fun _ _ _ h => h) (by rfl) ?_ hS0 ?_
      rotate_left
      · (intro W hW; go_simp; with_reducible rfl)
      refine tail_norm (a' := ?_) ?_ ?_
      rotate_left
      · (go_simp; with_reducible rfl)
      refine tail_take 3 (v := ?_) rfl (by kernel_rfl) (by kernel_rfl) (by kernel_rfl) (by kernel_rfl) (fun _ _ _ h => h) (by rfl) ?_ hS0 ?_
      rotate_left
      · (intro W hW; have q := hW.1.cell 5; have ql := hW.1.lt; simp at q; go_simp; with_reducible rfl)
      refine tail_norm (a' := ?_) ?_ ?_
      rotate_left
      · (go_simp; with_reducible rfl)
      refine tail_take 4 (v := ?_) rfl (by kernel_rfl) (by kernel_rfl) (by kernel_rfl) (by kernel_rfl) (fun _ _ _ h => h) (by rfl) ?_ hS0 ?_
      rotate_left
      · (intro W hW; obtain ⟨ql, q0, q1, q2, q3, q4, q5, q6, q7, q8⟩ := blok9c hW.2; go_simp; with_reducible rfl)
      refine tail_norm (a' := ?_) ?_ ?_
      rotate_left
      · (go_simp; with_reducible rfl)
      refine tail_take 5 (v := ?_) rfl (by kernel_rfl) (by kernel_rfl) (by kernel_rfl) (by kernel_rfl) (fun _ _ _ h => h) (by rfl) ?_ hS0 ?_
      rotate_left
      · (intro W hW; go_simp; with_reducible rfl)
      refine tail_norm (a' := ?_) ?_ ?_
      rotate_left
      · (go_simp; with_reducible rfl)
      refine tail_call 6 (by kernel_rfl) (by kernel_rfl) rfl (by rfl) (fun K hK => ?_)
      go_simp
      go_wp2_with fail
      have HDa := Lib.hid (HD.out.more ((Grew.refl W.drew).alloc (.cells #[.int .i64 0, .string ⟨#[]⟩, .string ⟨#[]⟩, .int .i64 0, .int .i64 0, .int .i64 0, .int .i64 0, .string ⟨#[]⟩, .slice none 0 0] 27)))
      have hSa : Blok (W.drew.alloc (.cells #[.int .i64 0, .string ⟨#[]⟩, .string ⟨#[]⟩, .int .i64 0, .int .i64 0, .int .i64 0, .int .i64 0, .string ⟨#[]⟩, .slice none 0 0] 27)) g 44 #[.int .i64 core, .slice AS vs.length kS, vE, vR, vL, (.slice AN wh.length cN)] ∧ Blok (W.drew.alloc (.cells #[.int .i64 0, .string ⟨#[]⟩, .string ⟨#[]⟩, .int .i64 0, .int .i64 0, .int .i64 0, .int .i64 0, .string ⟨#[]⟩, .slice none 0 0] 27)) bx 27 #[.int .i64 x.op, .string x.tab, .string x.name, .int .i64 x.t, .int .i64 x.c, .int .i64 x.vk, .int .i64 x.vi, .string x.vs, .slice PA x.l.length ka] := ⟨HDa.out.blk, hS0.2.alloc _⟩
      refine hK.out _ _ hSa ?_
      clear hK K
      refine tail_call 7 (by kernel_rfl) (by kernel_rfl) rfl (by rfl) (fun K hK => ?_)
      refine wp_appC (.tmp 63) (.tmp 66) 22 27 9 rfl base (.agg #[.int .i64 0, .string ⟨#[]⟩, .string ⟨#[]⟩, .int .i64 0, .int .i64 0, .int .i64 0, .int .i64 0, .string ⟨#[]⟩, .slice none 0 0]) 112 Try.underlying22 infoE rfl (by decide) (by decide) _ wh.length _ rfl (own_alloc (own_grewE HON.out (Grew.refl W).drew) _) _ 1 1 [.int .i64 0, .string ⟨#[]⟩, .string ⟨#[]⟩, .int .i64 0, .int .i64 0, .int .i64 0, .int .i64 0, .string ⟨#[]⟩, .slice none 0 0] rfl rfl (row_new W.drew _ _ #[.int .i64 0, .string ⟨#[]⟩, .string ⟨#[]⟩, .int .i64 0, .int .i64 0, .int .i64 0, .int .i64 0, .string ⟨#[]⟩, .slice none 0 0] rfl) (by intro u hu; simp only [List.mem_cons, List.not_mem_nil, or_false] at hu; rcases hu with rfl | rfl | rfl | rfl | rfl | rfl | rfl | rfl | rfl <;> rfl) (by omega) HDa.out.size ?_
      intro A6 c6 w6 ho6 hg6 hor6
      have hbb := own_base HON.out
      have hbx2 : (Value.slice AN wh.length cN).ownBlock ≠ some bx := fun e => Nat.lt_irrefl _ (HLW.out bx e)
      have hS6 : Blok w6 g 44 #[.int .i64 core, .slice AS vs.length kS, vE, vR, vL, (.slice AN wh.length cN)] ∧ Blok w6 bx 27 #[.int .i64 x.op, .string x.tab, .string x.name, .int .i64 x.t, .int .i64 x.c, .int .i64 x.vk, .int .i64 x.vi, .string x.vs, .slice PA x.l.length ka] := ⟨hSa.1.grown hg6 (fun e => by have := hbb g e; omega), hSa.2.grown hg6 hbx2⟩
      refine hK.out _ _ hS6 ?_
      clear hK K
      refine tail_done (by kernel_rfl) ?_
      obtain ⟨gb, cap, hv, hgb1, hgb2⟩ := World.ownsRow.form ho6 (by omega)
      injection hv with hv1 _ hv3
      subst hv1 hv3
      have hlt1 : (wh.length : Int) < (wh.length : Int) + 1 := by omega
      refine wpAny_take (i := 8) (v := ?_) rfl (by kernel_rfl) (by kernel_rfl) (by kernel_rfl) (fun _ _ _ h => h) (Or.inl ⟨by rfl, ?_⟩) ?_
      rotate_left
      · (intro w; go_simp; with_reducible rfl)
      refine wpAny_take (i := 10) (v := ?_) rfl (by kernel_rfl) (by kernel_rfl) (by kernel_rfl) (fun _ _ _ h => h) (Or.inl ⟨by rfl, ?_⟩) ?_
      rotate_left
      · (intro w; go_simp; with_reducible rfl)
      refine wpAny_take (i := 11) (v := ?_) rfl (by kernel_rfl) (by kernel_rfl) (by kernel_rfl) (fun _ _ _ h => h) (Or.inl ⟨by rfl, ?_⟩) ?_
      rotate_left
      · (intro w; go_simp; with_reducible rfl)
      have z0 := ho6.frozenAt (wh.length * 9)
      have z1 := ho6.frozenAt (wh.length * 9 + 1)
      have z2 := ho6.frozenAt (wh.length * 9 + 2)
      have z3 := ho6.frozenAt (wh.length * 9 + 3)
      have z4 := ho6.frozenAt (wh.length * 9 + 4)
      have z5 := ho6.frozenAt (wh.length * 9 + 5)
      have z6 := ho6.frozenAt (wh.length * 9 + 6)
      have z7 := ho6.frozenAt (wh.length * 9 + 7)
      have z8 := ho6.frozenAt (wh.length * 9 + 8)
      obtain ⟨q0, q1, q2, q3, q4, q5, q6, q7, q8⟩ := cells_nine ho6 hlen (by omega)
      have hcz := hS6.1.thaw 5
      have hcc := hS6.1.cell 5
      simp at hcc
      have hcl := hS6.1.lt
      have hggb : g ≠ gb := by omega
      have HB6 := Lib.hid hS6.1
      have HO7 := Lib.hid (own_nine ho6 hlen (.int .i64 x.op) (.string x.tab) (.string x.name) (.int .i64 x.t) (.int .i64 x.c) (.int .i64 x.vk) (.int .i64 x.vi) (.string x.vs) (.slice PA x.l.length ka))
      have HG7 := Lib.hid (grown_nine (p := wh.length * 9) hg6 (hor6.elim (fun h => Or.inl h.symm) (fun h => Or.inr (by cases h; exact Nat.le_refl _))) (.int .i64 x.op) (.string x.tab) (.string x.name) (.int .i64 x.t) (.int .i64 x.c) (.int .i64 x.vk) (.int .i64 x.vi) (.string x.vs) (.slice PA x.l.length ka))
      have HSf := Lib.hid (HDa.out.putW HCS.out HPA.out (x := x) (ka := ka) HO7.out HG7.out hor6)
      have HB7 := Lib.hid (HB6.out.nine (p := wh.length * 9) hggb (.int .i64 x.op) (.string x.tab) (.string x.name) (.int .i64 x.t) (.int .i64 x.c) (.int .i64 x.vk) (.int .i64 x.vi) (.string x.vs) (.slice PA x.l.length ka))
      have HCm := Lib.hid (nine_comm w6 (g := g) (b := gb) (j := 5) (p := wh.length * 9) hggb (.slice (some ⟨gb, 0, none⟩) (wh.length + 1) c6) (.int .i64 x.op) (.string x.tab) (.string x.name) (.int .i64 x.t) (.int .i64 x.c) (.int .i64 x.vk) (.int .i64 x.vi) (.string x.vs) (.slice PA x.l.length ka))
      clear hS0 hSa hS6 HD HDa HON HO7 HG7 HBX hbb hbx2 hor6 hg6 HS
      refine wpAny_ready (rs := [9, 12]) (by kernel_rfl) (by simp) ?_
      refine AllReady.cons rfl (fun K hK => ?_) (AllReady.cons rfl (fun K hK => ?_) AllReady.nil)
      · have HK := Lib.hid hK
        clear hK
        go_simp
        refine HK.out _ _ ?_
        clear HK K z0 z1 z2 z3 z4 z5 z6 z7 z8 q0 q1 q2 q3 q4 q5 q6 q7 q8 hcz hcc hcl HCm ho6 HB6
        generalize (((((((((w6.setCell ⟨gb, wh.length * 9, none⟩ (.int .i64 x.op)).setCell ⟨gb, wh.length * 9 + 1, none⟩ (.string x.tab)).setCell ⟨gb, wh.length * 9 + 2, none⟩ (.string x.name)).setCell ⟨gb, wh.length * 9 + 3, none⟩ (.int .i64 x.t)).setCell ⟨gb, wh.length * 9 + 4, none⟩ (.int .i64 x.c)).setCell ⟨gb, wh.length * 9 + 5, none⟩ (.int .i64 x.vk)).setCell ⟨gb, wh.length * 9 + 6, none⟩ (.int .i64 x.vi)).setCell ⟨gb, wh.length * 9 + 7, none⟩ (.string x.vs)).setCell ⟨gb, wh.length * 9 + 8, none⟩ (.slice PA x.l.length ka)) = W7 at *
        have hcz := HB7.out.thaw 5
        have hcc := HB7.out.cell 5
        simp at hcc
        have hcl := HB7.out.lt
        refine wpAny_ready (rs := [12]) (by kernel_rfl) (by simp) ?_
        refine AllReady.cons rfl (fun K hK => ?_) AllReady.nil
        have HK := Lib.hid hK
        clear hK
        go_simp
        refine HK.out _ _ ?_
        clear HK K
        refine ⟨by kernel_rfl, ?_⟩
        have HF := Lib.hid (HFin.out _ _ _ _ _ (HWp.out _ _ _ _ _ HSf.out))
        clear HSf HFin hcz hcc hcl HB7
        go_wp2
        first | go_end0 | skip
        exact HF.out
      · have HK := Lib.hid hK
        clear hK
        go_simp
        refine HK.out _ _ ?_
        clear HK K z0 z1 z2 z3 z4 z5 z6 z7 z8 q0 q1 q2 q3 q4 q5 q6 q7 q8
        have HO8 := Lib.hid (ownsRow_setCell_below ho6 (a := ⟨g, 5, none⟩) hgb (.slice (some ⟨gb, 0, none⟩) (wh.length + 1) c6))
        have HF := Lib.hid (HFin.out _ _ _ _ _ (HWp.out _ _ _ _ _ HSf.out))
        have HF2 : Hid (PutF pr u v base g core AS kS vL (l ++ [x]) (.returned (.tuple #[])) _) := Lib.hid (HCm.out ▸ HF.out)
        clear HF HSf HFin hcz hcc hcl HB7 HB6 HCm ho6
        generalize (w6.setCell ⟨g, 5, none⟩ (.slice (some ⟨gb, 0, none⟩) (wh.length + 1) c6)) = W8 at *
        have z0 := HO8.out.frozenAt (wh.length * 9)
        have z1 := HO8.out.frozenAt (wh.length * 9 + 1)
        have z2 := HO8.out.frozenAt (wh.length * 9 + 2)
        have z3 := HO8.out.frozenAt (wh.length * 9 + 3)
        have z4 := HO8.out.frozenAt (wh.length * 9 + 4)
        have z5 := HO8.out.frozenAt (wh.length * 9 + 5)
        have z6 := HO8.out.frozenAt (wh.length * 9 + 6)
        have z7 := HO8.out.frozenAt (wh.length * 9 + 7)
        have z8 := HO8.out.frozenAt (wh.length * 9 + 8)
        obtain ⟨q0, q1, q2, q3, q4, q5, q6, q7, q8⟩ := cells_nine HO8.out hlen (by omega)
        have hgl8 : gb < W8.heap.size := own_lt HO8.out gb rfl
        refine wpAny_ready (rs := [9]) (by kernel_rfl) (by simp) ?_
        refine AllReady.cons rfl (fun K hK => ?_) AllReady.nil
        have HK := Lib.hid hK
        clear hK
        go_simp
        refine HK.out _ _ ?_
        clear HK K
        refine ⟨by kernel_rfl, ?_⟩
        clear z0 z1 z2 z3 z4 z5 z6 z7 z8 q0 q1 q2 q3 q4 q5 q6 q7 q8 HO8
        generalize (((((((((W8.setCell ⟨gb, wh.length * 9, none⟩ (.int .i64 x.op)).setCell ⟨gb, wh.length * 9 + 1, none⟩ (.string x.tab)).setCell ⟨gb, wh.length * 9 + 2, none⟩ (.string x.name)).setCell ⟨gb, wh.length * 9 + 3, none⟩ (.int .i64 x.t)).setCell ⟨gb, wh.length * 9 + 4, none⟩ (.int .i64 x.c)).setCell ⟨gb, wh.length * 9 + 5, none⟩ (.int .i64 x.vk)).setCell ⟨gb, wh.length * 9 + 6, none⟩ (.int .i64 x.vi)).setCell ⟨gb, wh.length * 9 + 7, none⟩ (.string x.vs)).setCell ⟨gb, wh.length * 9 + 8, none⟩ (.slice PA x.l.length ka)) = W9 at *
        go_wp2
        first | go_end0 | skip
        exact HF2.out
    by_cases hb1 : (decide ((0 : Int) ≤ us[n]) && decide (us[n] < (core : Int))) = true
    rotate_left
    · have hb1' : (decide ((0 : Int) ≤ us[n]) && decide (us[n] < (core : Int))) = false := by simpa using hb1
      have hwi : wi = 1 := by rw [HWd.out, hend, hb0, hb1']; simp
      subst hwi
      rw [hb1'] at HI1
      rw [hb0] at HI0
      have HWp := Lib.hid (HW1.out rfl)
      clear HW0 HW1 HW2 HW3 HWd HEU HRis HSat HSl HRU lE lT lR hb0 hb1 hb1' hend
      rw [hn]
      generalize us[0] = y0 at *
      generalize us[n] = yn at *
      go_upto_region 7 with (go_at_call 43; first | ((with_reducible refine (HI0.out _ HS.out.blk).grows.mono ?_); rintro e W ⟨rfl, hgn⟩; have HS := Lib.hid (HS.out.more hgn); have HBX := Lib.hid (HBX.out.grew hgn); have hcn := cell_keep hgn hbu hcn; have hbu := Nat.lt_of_lt_of_le hbu (Grew.size hgn); clear hgn) | ((with_reducible refine (HI1.out _ HS.out.blk).grows.mono ?_); rintro e W ⟨rfl, hgn⟩; have HS := Lib.hid (HS.out.more hgn); have HBX := Lib.hid (HBX.out.grew hgn); clear hgn))
      go_upto_region 7 with fail
      obtain ⟨AN, cN, hvN, css, hcs, hoN⟩ := HS.out.bins.each 1 vW wh rfl rfl
      subst hvN
      have HCS := Lib.hid hcs
      have HON := Lib.hid hoN
      have hlen := hcs.flat
      clear hcs hoN
      have HD := Lib.hid (HS.out.more (Grew.refl W).drew)
      have hS0 : Blok W.drew g 44 #[.int .i64 core, .slice AS vs.length kS, vE, vR, vL, (.slice AN wh.length cN)] ∧ Blok W.drew bx 27 #[.int .i64 x.op, .string x.tab, .string x.name, .int .i64 x.t, .int .i64 x.c, .int .i64 x.vk, .int .i64 x.vi, .string x.vs, .slice PA x.l.length ka] := ⟨HD.out.blk, HBX.out.grew (Grew.refl W).drew⟩
      refine wp_region_tail (fun W => Blok W g 44 #[.int .i64 core, .slice AS vs.length kS, vE, vR, vL, (.slice AN wh.length cN)] ∧ Blok W bx 27 #[.int .i64 x.op, .string x.tab, .string x.name, .int .i64 x.t, .int .i64 x.c, .int .i64 x.vk, .int .i64 x.vi, .string x.vs, .slice PA x.l.length ka]) 8 5 rfl (by kernel_rfl) ?_
      refine tail_take 0 (v := ?_) rfl (by kernel_rfl) (by kernel_rfl) (by kernel_rfl) (by kernel_rfl) (fun _ _ _ h => h) (by rfl) ?_ hS0 ?_
      rotate_left
      · (intro W hW; go_simp; with_reducible rfl)
      refine tail_norm (a' := ?_) ?_ ?_
      rotate_left
      · (go_simp; with_reducible rfl)
      refine tail_take 1 (v := ?_) rfl (by kernel_rfl) (by kernel_rfl) (by kernel_rfl) (by kernel_rfl) (fun _ _ _ h => h) (by rfl) ?_ hS0 ?_
      rotate_left
      · (intro W hW; go_simp; with_reducible rfl)
      refine tail_norm (a' := ?_) ?_ ?_
      rotate_left
      · (go_simp; with_reducible rfl)
      refine tail_take 2 (v := ?_) rfl (by kernel_rfl) (by kernel_rfl) (by kernel_rfl) (by kernel_rfl) (fun _ _ _ h => h) (by rfl) ?_ hS0 ?_
      rotate_left
      · (intro W hW; go_simp; with_reducible rfl)
      refine tail_norm (a' := ?_) ?_ ?_
      rotate_left
      · (go_simp; with_reducible rfl)
      refine tail_take 3 (v := ?_) rfl (by kernel_rfl) (by kernel_rfl) (by kernel_rfl) (by kernel_rfl) (fun _ _ _ h => h) (by rfl) ?_ hS0 ?_
      rotate_left
      · (intro W hW; have q := hW.1.cell 5; have ql := hW.1.lt; simp at q; go_simp; with_reducible rfl)
      refine tail_norm (a' := ?_) ?_ ?_
      rotate_left
      · (go_simp; with_reducible rfl)
      refine tail_take 4 (v := ?_) rfl (by kernel_rfl) (by kernel_rfl) (by kernel_rfl) (by kernel_rfl) (fun _ _ _ h => h) (by rfl) ?_ hS0 ?_
      rotate_left
      · (intro W hW; obtain ⟨ql, q0, q1, q2, q3, q4, q5, q6, q7, q8⟩ := blok9c hW.2; go_simp; with_reducible rfl)
      refine tail_norm (a' := ?_) ?_ ?_
      rotate_left
      · (go_simp; with_reducible rfl)
      refine tail_take 5 (v := ?_) rfl (by kernel_rfl) (by kernel_rfl) (by kernel_rfl) (by kernel_rfl) (fun _ _ _ h => h) (by rfl) ?_ hS0 ?_
      rotate_left
      · (intro W hW; go_simp; with_reducible rfl)
      refine tail_norm (a' := ?_) ?_ ?_
      rotate_left
      · (go_simp; with_reducible rfl)
      refine tail_call 6 (by kernel_rfl) (by kernel_rfl) rfl (by rfl) (fun K hK => ?_)
      go_simp
      go_wp2_with fail
      have HDa := Lib.hid (HD.out.more ((Grew.refl W.drew).alloc (.cells #[.int .i64 0, .string ⟨#[]⟩, .string ⟨#[]⟩, .int .i64 0, .int .i64 0, .int .i64 0, .int .i64 0, .string ⟨#[]⟩, .slice none 0 0] 27)))
      have hSa : Blok (W.drew.alloc (.cells #[.int .i64 0, .string ⟨#[]⟩, .string ⟨#[]⟩, .int .i64 0, .int .i64 0, .int .i64 0, .int .i64 0, .string ⟨#[]⟩, .slice none 0 0] 27)) g 44 #[.int .i64 core, .slice AS vs.length kS, vE, vR, vL, (.slice AN wh.length cN)] ∧ Blok (W.drew.alloc (.cells #[.int .i64 0, .string ⟨#[]⟩, .string ⟨#[]⟩, .int .i64 0, .int .i64 0, .int .i64 0, .int .i64 0, .string ⟨#[]⟩, .slice none 0 0] 27)) bx 27 #[.int .i64 x.op, .string x.tab, .string x.name, .int .i64 x.t, .int .i64 x.c, .int .i64 x.vk, .int .i64 x.vi, .string x.vs, .slice PA x.l.length ka] := ⟨HDa.out.blk, hS0.2.alloc _⟩
      refine hK.out _ _ hSa ?_
      clear hK K
      refine tail_call 7 (by kernel_rfl) (by kernel_rfl) rfl (by rfl) (fun K hK => ?_)
      refine wp_appC (.tmp 63) (.tmp 66) 22 27 9 rfl base (.agg #[.int .i64 0, .string ⟨#[]⟩, .string ⟨#[]⟩, .int .i64 0, .int .i64 0, .int .i64 0, .int .i64 0, .string ⟨#[]⟩, .slice none 0 0]) 112 Try.underlying22 infoE rfl (by decide) (by decide) _ wh.length _ rfl (own_alloc (own_grewE HON.out (Grew.refl W).drew) _) _ 1 1 [.int .i64 0, .string ⟨#[]⟩, .string ⟨#[]⟩, .int .i64 0, .int .i64 0, .int .i64 0, .int .i64 0, .string ⟨#[]⟩, .slice none 0 0] rfl rfl (row_new W.drew _ _ #[.int .i64 0, .string ⟨#[]⟩, .string ⟨#[]⟩, .int .i64 0, .int .i64 0, .int .i64 0, .int .i64 0, .string ⟨#[]⟩, .slice none 0 0] rfl) (by intro u hu; simp only [List.mem_cons, List.not_mem_nil, or_false] at hu; rcases hu with rfl | rfl | rfl | rfl | rfl | rfl | rfl | rfl | rfl <;> rfl) (by omega) HDa.out.size ?_
      intro A6 c6 w6 ho6 hg6 hor6
      have hbb := own_base HON.out
      have hbx2 : (Value.slice AN wh.length cN).ownBlock ≠ some bx := fun e => Nat.lt_irrefl _ (HLW.out bx e)
      have hS6 : Blok w6 g 44 #[.int .i64 core, .slice AS vs.length kS, vE, vR, vL, (.slice AN wh.length cN)] ∧ Blok w6 bx 27 #[.int .i64 x.op, .string x.tab, .string x.name, .int .i64 x.t, .int .i64 x.c, .int .i64 x.vk, .int .i64 x.vi, .string x.vs, .slice PA x.l.length ka] := ⟨hSa.1.grown hg6 (fun e => by have := hbb g e; omega), hSa.2.grown hg6 hbx2⟩
      refine hK.out _ _ hS6 ?_
      clear hK K
      refine tail_done (by kernel_rfl) ?_
      obtain ⟨gb, cap, hv, hgb1, hgb2⟩ := World.ownsRow.form ho6 (by omega)
      injection hv with hv1 _ hv3
      subst hv1 hv3
      have hlt1 : (wh.length : Int) < (wh.length : Int) + 1 := by omega
      refine wpAny_take (i := 8) (v := ?_) rfl (by kernel_rfl) (by kernel_rfl) (by kernel_rfl) (fun _ _ _ h => h) (Or.inl ⟨by rfl, ?_⟩) ?_
      rotate_left
      · (intro w; go_simp; with_reducible rfl)
      refine wpAny_take (i := 10) (v := ?_) rfl (by kernel_rfl) (by kernel_rfl) (by kernel_rfl) (fun _ _ _ h => h) (Or.inl ⟨by rfl, ?_⟩) ?_
      rotate_left
      · (intro w; go_simp; with_reducible rfl)
      refine wpAny_take (i := 11) (v := ?_) rfl (by kernel_rfl) (by kernel_rfl) (by kernel_rfl) (fun _ _ _ h => h) (Or.inl ⟨by rfl, ?_⟩) ?_
      rotate_left
      · (intro w; go_simp; with_reducible rfl)
      have z0 := ho6.frozenAt (wh.length * 9)
      have z1 := ho6.frozenAt (wh.length * 9 + 1)
      have z2 := ho6.frozenAt (wh.length * 9 + 2)
      have z3 := ho6.frozenAt (wh.length * 9 + 3)
      have z4 := ho6.frozenAt (wh.length * 9 + 4)
      have z5 := ho6.frozenAt (wh.length * 9 + 5)
      have z6 := ho6.frozenAt (wh.length * 9 + 6)
      have z7 := ho6.frozenAt (wh.length * 9 + 7)
      have z8 := ho6.frozenAt (wh.length * 9 + 8)
      obtain ⟨q0, q1, q2, q3, q4, q5, q6, q7, q8⟩ := cells_nine ho6 hlen (by omega)
      have hcz := hS6.1.thaw 5
      have hcc := hS6.1.cell 5
      simp at hcc
      have hcl := hS6.1.lt
      have hggb : g ≠ gb := by omega
      have HB6 := Lib.hid hS6.1
      have HO7 := Lib.hid (own_nine ho6 hlen (.int .i64 x.op) (.string x.tab) (.string x.name) (.int .i64 x.t) (.int .i64 x.c) (.int .i64 x.vk) (.int .i64 x.vi) (.string x.vs) (.slice PA x.l.length ka))
      have HG7 := Lib.hid (grown_nine (p := wh.length * 9) hg6 (hor6.elim (fun h => Or.inl h.symm) (fun h => Or.inr (by cases h; exact Nat.le_refl _))) (.int .i64 x.op) (.string x.tab) (.string x.name) (.int .i64 x.t) (.int .i64 x.c) (.int .i64 x.vk) (.int .i64 x.vi) (.string x.vs) (.slice PA x.l.length ka))
      have HSf := Lib.hid (HDa.out.putW HCS.out HPA.out (x := x) (ka := ka) HO7.out HG7.out hor6)
      have HB7 := Lib.hid (HB6.out.nine (p := wh.length * 9) hggb (.int .i64 x.op) (.string x.tab) (.string x.name) (.int .i64 x.t) (.int .i64 x.c) (.int .i64 x.vk) (.int .i64 x.vi) (.string x.vs) (.slice PA x.l.length ka))
      have HCm := Lib.hid (nine_comm w6 (g := g) (b := gb) (j := 5) (p := wh.length * 9) hggb (.slice (some ⟨gb, 0, none⟩) (wh.length + 1) c6) (.int .i64 x.op) (.string x.tab) (.string x.name) (.int .i64 x.t) (.int .i64 x.c) (.int .i64 x.vk) (.int .i64 x.vi) (.string x.vs) (.slice PA x.l.length ka))
      clear hS0 hSa hS6 HD HDa HON HO7 HG7 HBX hbb hbx2 hor6 hg6 HS
      refine wpAny_ready (rs := [9, 12]) (by kernel_rfl) (by simp) ?_
      refine AllReady.cons rfl (fun K hK => ?_) (AllReady.cons rfl (fun K hK => ?_) AllReady.nil)
      · have HK := Lib.hid hK
        clear hK
        go_simp
        refine HK.out _ _ ?_
        clear HK K z0 z1 z2 z3 z4 z5 z6 z7 z8 q0 q1 q2 q3 q4 q5 q6 q7 q8 hcz hcc hcl HCm ho6 HB6
        generalize (((((((((w6.setCell ⟨gb, wh.length * 9, none⟩ (.int .i64 x.op)).setCell ⟨gb, wh.length * 9 + 1, none⟩ (.string x.tab)).setCell ⟨gb, wh.length * 9 + 2, none⟩ (.string x.name)).setCell ⟨gb, wh.length * 9 + 3, none⟩ (.int .i64 x.t)).setCell ⟨gb, wh.length * 9 + 4, none⟩ (.int .i64 x.c)).setCell ⟨gb, wh.length * 9 + 5, none⟩ (.int .i64 x.vk)).setCell ⟨gb, wh.length * 9 + 6, none⟩ (.int .i64 x.vi)).setCell ⟨gb, wh.length * 9 + 7, none⟩ (.string x.vs)).setCell ⟨gb, wh.length * 9 + 8, none⟩ (.slice PA x.l.length ka)) = W7 at *
        have hcz := HB7.out.thaw 5
        have hcc := HB7.out.cell 5
        simp at hcc
        have hcl := HB7.out.lt
        refine wpAny_ready (rs := [12]) (by kernel_rfl) (by simp) ?_
        refine AllReady.cons rfl (fun K hK => ?_) AllReady.nil
        have HK := Lib.hid hK
        clear hK
        go_simp
        refine HK.out _ _ ?_
        clear HK K
        refine ⟨by kernel_rfl, ?_⟩
        have HF := Lib.hid (HFin.out _ _ _ _ _ (HWp.out _ _ _ _ _ HSf.out))
        clear HSf HFin hcz hcc hcl HB7
        go_wp2
        first | go_end0 | skip
        exact HF.out
      · have HK := Lib.hid hK
        clear hK
        go_simp
        refine HK.out _ _ ?_
        clear HK K z0 z1 z2 z3 z4 z5 z6 z7 z8 q0 q1 q2 q3 q4 q5 q6 q7 q8
        have HO8 := Lib.hid (ownsRow_setCell_below ho6 (a := ⟨g, 5, none⟩) hgb (.slice (some ⟨gb, 0, none⟩) (wh.length + 1) c6))
        have HF := Lib.hid (HFin.out _ _ _ _ _ (HWp.out _ _ _ _ _ HSf.out))
        have HF2 : Hid (PutF pr u v base g core AS kS vL (l ++ [x]) (.returned (.tuple #[])) _) := Lib.hid (HCm.out ▸ HF.out)
        clear HF HSf HFin hcz hcc hcl HB7 HB6 HCm ho6
        generalize (w6.setCell ⟨g, 5, none⟩ (.slice (some ⟨gb, 0, none⟩) (wh.length + 1) c6)) = W8 at *
        have z0 := HO8.out.frozenAt (wh.length * 9)
        have z1 := HO8.out.frozenAt (wh.length * 9 + 1)
        have z2 := HO8.out.frozenAt (wh.length * 9 + 2)
        have z3 := HO8.out.frozenAt (wh.length * 9 + 3)
        have z4 := HO8.out.frozenAt (wh.length * 9 + 4)
        have z5 := HO8.out.frozenAt (wh.length * 9 + 5)
        have z6 := HO8.out.frozenAt (wh.length * 9 + 6)
        have z7 := HO8.out.frozenAt (wh.length * 9 + 7)
        have z8 := HO8.out.frozenAt (wh.length * 9 + 8)
        obtain ⟨q0, q1, q2, q3, q4, q5, q6, q7, q8⟩ := cells_nine HO8.out hlen (by omega)
        have hgl8 : gb < W8.heap.size := own_lt HO8.out gb rfl
        refine wpAny_ready (rs := [9]) (by kernel_rfl) (by simp) ?_
        refine AllReady.cons rfl (fun K hK => ?_) AllReady.nil
        have HK := Lib.hid hK
        clear hK
        go_simp
        refine HK.out _ _ ?_
        clear HK K
        refine ⟨by kernel_rfl, ?_⟩
        clear z0 z1 z2 z3 z4 z5 z6 z7 z8 q0 q1 q2 q3 q4 q5 q6 q7 q8 HO8
        generalize (((((((((W8.setCell ⟨gb, wh.length * 9, none⟩ (.int .i64 x.op)).setCell ⟨gb, wh.length * 9 + 1, none⟩ (.string x.tab)).setCell ⟨gb, wh.length * 9 + 2, none⟩ (.string x.name)).setCell ⟨gb, wh.length * 9 + 3, none⟩ (.int .i64 x.t)).setCell ⟨gb, wh.length * 9 + 4, none⟩ (.int .i64 x.c)).setCell ⟨gb, wh.length * 9 + 5, none⟩ (.int .i64 x.vk)).setCell ⟨gb, wh.length * 9 + 6, none⟩ (.int .i64 x.vi)).setCell ⟨gb, wh.length * 9 + 7, none⟩ (.string x.vs)).setCell ⟨gb, wh.length * 9 + 8, none⟩ (.slice PA x.l.length ka)) = W9 at *
        go_wp2
        first | go_end0 | skip
        exact HF2.out
    have hout : outI us core = false := by rw [hend, hb0, hb1]; rfl
    rw [hout, if_neg (by simp)] at HWd
    rw [hb0] at HI0
    rw [hb1] at HI1
    have ht0 : 0 ≤ us[0] := by simp at hb0; exact hb0.1
    have ht1 : us[0] < (core : Int) := by simp at hb0; exact hb0.2
    clear hout hend hb1 hb0 HEU HRis HW1
    by_cases h1 : us.length = 1
    rotate_left
    · rw [if_neg h1] at HWd
      have hn1 : ((us.length : Int) == 1) = false := by rw [beq_eq_false_iff_ne]; omega
      rw [hn] at hn1
      clear HW2 HSat HSl HRU lT ht0 ht1 h1
      rw [hn]
      generalize us[0] = y0 at *
      generalize us[n] = yn at *
      cases is
      · have hwi : wi = 0 := by rw [HWd.out]; rfl
        subst hwi
        have HWp := Lib.hid (HW0.out rfl)
        clear HW0 HW3 HWd lE lW
        go_upto_region 3 with (go_at_call 43; first | ((with_reducible refine (HI0.out _ HS.out.blk).grows.mono ?_); rintro e W ⟨rfl, hgn⟩; have HS := Lib.hid (HS.out.more hgn); have HBX := Lib.hid (HBX.out.grew hgn); have hcn := cell_keep hgn hbu hcn; have hbu := Nat.lt_of_lt_of_le hbu (Grew.size hgn); clear hgn) | ((with_reducible refine (HI1.out _ HS.out.blk).grows.mono ?_); rintro e W ⟨rfl, hgn⟩; have HS := Lib.hid (HS.out.more hgn); have HBX := Lib.hid (HBX.out.grew hgn); clear hgn))
        go_upto_region 3 with fail
        obtain ⟨AN, cN, hvN, css, hcs, hoN⟩ := HS.out.bins.each 0 vR rs rfl rfl
        subst hvN
        have HCS := Lib.hid hcs
        have HON := Lib.hid hoN
        have hlen := hcs.flat
        clear hcs hoN
        have HD := Lib.hid (HS.out.more (Grew.refl W).drew)
        have hS0 : Blok W.drew g 44 #[.int .i64 core, .slice AS vs.length kS, vE, (.slice AN rs.length cN), vL, vW] ∧ Blok W.drew bx 27 #[.int .i64 x.op, .string x.tab, .string x.name, .int .i64 x.t, .int .i64 x.c, .int .i64 x.vk, .int .i64 x.vi, .string x.vs, .slice PA x.l.length ka] := ⟨HD.out.blk, HBX.out.grew (Grew.refl W).drew⟩
        refine wp_region_tail (fun W => Blok W g 44 #[.int .i64 core, .slice AS vs.length kS, vE, (.slice AN rs.length cN), vL, vW] ∧ Blok W bx 27 #[.int .i64 x.op, .string x.tab, .string x.name, .int .i64 x.t, .int .i64 x.c, .int .i64 x.vk, .int .i64 x.vi, .string x.vs, .slice PA x.l.length ka]) 8 5 rfl (by kernel_rfl) ?_
        refine tail_take 0 (v := ?_) rfl (by kernel_rfl) (by kernel_rfl) (by kernel_rfl) (by kernel_rfl) (fun _ _ _ h => h) (by rfl) ?_ hS0 ?_
        rotate_left
        · (intro W hW; go_simp; with_reducible rfl)
        refine tail_norm (a' := ?_) ?_ ?_
        rotate_left
        · (go_simp; with_reducible rfl)
        refine tail_take 1 (v := ?_) rfl (by kernel_rfl) (by kernel_rfl) (by kernel_rfl) (by kernel_rfl) (fun _ _ _ h => h) (by rfl) ?_ hS0 ?_
        rotate_left
        · (intro W hW; go_simp; with_reducible rfl)
        refine tail_norm (a' := ?_) ?_ ?_
        rotate_left
        · (go_simp; with_reducible rfl)
        refine tail_take 2 (v := ?_) rfl (by kernel_rfl) (by kernel_rfl) (by kernel_rfl) (by kernel_rfl) (fun _ _ _ h => h) (by rfl) ?_ hS0 ?_
        rotate_left
        · (intro W hW; go_simp; with_reducible rfl)
        refine tail_norm (a' := ?_) ?_ ?_
        rotate_left
        · (go_simp; with_reducible rfl)
        refine tail_take 3 (v := ?_) rfl (by kernel_rfl) (by kernel_rfl) (by kernel_rfl) (by kernel_rfl) (fun _ _ _ h => h) (by rfl) ?_ hS0 ?_
        rotate_left
        · (intro W hW; have q := hW.1.cell 3; have ql := hW.1.lt; simp at q; go_simp; with_reducible rfl)
        refine tail_norm (a' := ?_) ?_ ?_
        rotate_left
        · (go_simp; with_reducible rfl)
        refine tail_take 4 (v := ?_) rfl (by kernel_rfl) (by kernel_rfl) (by kernel_rfl) (by kernel_rfl) (fun _ _ _ h => h) (by rfl) ?_ hS0 ?_
        rotate_left
        · (intro W hW; obtain ⟨ql, q0, q1, q2, q3, q4, q5, q6, q7, q8⟩ := blok9c hW.2; go_simp; with_reducible rfl)
        refine tail_norm (a' := ?_) ?_ ?_
        rotate_left
        · (go_simp; with_reducible rfl)
        refine tail_take 5 (v := ?_) rfl (by kernel_rfl) (by kernel_rfl) (by kernel_rfl) (by kernel_rfl) (fun _ _ _ h => h) (by rfl) ?_ hS0 ?_
        rotate_left
        · (intro W hW; go_simp; with_reducible rfl)
        refine tail_norm (a' := ?_) ?_ ?_
        rotate_left
        · (go_simp; with_reducible rfl)
        refine tail_call 6 (by kernel_rfl) (by kernel_rfl) rfl (by rfl) (fun K hK => ?_)
        go_simp
        go_wp2_with fail
        have HDa := Lib.hid (HD.out.more ((Grew.refl W.drew).alloc (.cells #[.int .i64 0, .string ⟨#[]⟩, .string ⟨#[]⟩, .int .i64 0, .int .i64 0, .int .i64 0, .int .i64 0, .string ⟨#[]⟩, .slice none 0 0] 27)))
        have hSa : Blok (W.drew.alloc (.cells #[.int .i64 0, .string ⟨#[]⟩, .string ⟨#[]⟩, .int .i64 0, .int .i64 0, .int .i64 0, .int .i64 0, .string ⟨#[]⟩, .slice none 0 0] 27)) g 44 #[.int .i64 core, .slice AS vs.length kS, vE, (.slice AN rs.length cN), vL, vW] ∧ Blok (W.drew.alloc (.cells #[.int .i64 0, .string ⟨#[]⟩, .string ⟨#[]⟩, .int .i64 0, .int .i64 0, .int .i64 0, .int .i64 0, .string ⟨#[]⟩, .slice none 0 0] 27)) bx 27 #[.int .i64 x.op, .string x.tab, .string x.name, .int .i64 x.t, .int .i64 x.c, .int .i64 x.vk, .int .i64 x.vi, .string x.vs, .slice PA x.l.length ka] := ⟨HDa.out.blk, hS0.2.alloc _⟩
        refine hK.out _ _ hSa ?_
        clear hK K
        refine tail_call 7 (by kernel_rfl) (by kernel_rfl) rfl (by rfl) (fun K hK => ?_)
        refine wp_appC (.tmp 19) (.tmp 22) 22 27 9 rfl base (.agg #[.int .i64 0, .string ⟨#[]⟩, .string ⟨#[]⟩, .int .i64 0, .int .i64 0, .int .i64 0, .int .i64 0, .string ⟨#[]⟩, .slice none 0 0]) 112 Try.underlying22 infoE rfl (by decide) (by decide) _ rs.length _ rfl (own_alloc (own_grewE HON.out (Grew.refl W).drew) _) _ 1 1 [.int .i64 0, .string ⟨#[]⟩, .string ⟨#[]⟩, .int .i64 0, .int .i64 0, .int .i64 0, .int .i64 0, .string ⟨#[]⟩, .slice none 0 0] rfl rfl (row_new W.drew _ _ #[.int .i64 0, .string ⟨#[]⟩, .string ⟨#[]⟩, .int .i64 0, .int .i64 0, .int .i64 0, .int .i64 0, .string ⟨#[]⟩, .slice none 0 0] rfl) (by intro u hu; simp only [List.mem_cons, List.not_mem_nil, or_false] at hu; rcases hu with rfl | rfl | rfl | rfl | rfl | rfl | rfl | rfl | rfl <;> rfl) (by omega) HDa.out.size ?_
        intro A6 c6 w6 ho6 hg6 hor6
        have hbb := own_base HON.out
        have hbx2 : (Value.slice AN rs.length cN).ownBlock ≠ some bx := fun e => Nat.lt_irrefl _ (HLR.out bx e)
        have hS6 : Blok w6 g 44 #[.int .i64 core, .slice AS vs.length kS, vE, (.slice AN rs.length cN), vL, vW] ∧ Blok w6 bx 27 #[.int .i64 x.op, .string x.tab, .string x.name, .int .i64 x.t, .int .i64 x.c, .int .i64 x.vk, .int .i64 x.vi, .string x.vs, .slice PA x.l.length ka] := ⟨hSa.1.grown hg6 (fun e => by have := hbb g e; omega), hSa.2.grown hg6 hbx2⟩
        refine hK.out _ _ hS6 ?_
        clear hK K
        refine tail_done (by kernel_rfl) ?_
        obtain ⟨gb, cap, hv, hgb1, hgb2⟩ := World.ownsRow.form ho6 (by omega)
        injection hv with hv1 _ hv3
        subst hv1 hv3
        have hlt1 : (rs.length : Int) < (rs.length : Int) + 1 := by omega
        refine wpAny_take (i := 8) (v := ?_) rfl (by kernel_rfl) (by kernel_rfl) (by kernel_rfl) (fun _ _ _ h => h) (Or.inl ⟨by rfl, ?_⟩) ?_
        rotate_left
        · (intro w; go_simp; with_reducible rfl)
        refine wpAny_take (i := 10) (v := ?_) rfl (by kernel_rfl) (by kernel_rfl) (by kernel_rfl) (fun _ _ _ h => h) (Or.inl ⟨by rfl, ?_⟩) ?_
        rotate_left
        · (intro w; go_simp; with_reducible rfl)
        refine wpAny_take (i := 11) (v := ?_) rfl (by kernel_rfl) (by kernel_rfl) (by kernel_rfl) (fun _ _ _ h => h) (Or.inl ⟨by rfl, ?_⟩) ?_
        rotate_left
        · (intro w; go_simp; with_reducible rfl)
        have z0 := ho6.frozenAt (rs.length * 9)
        have z1 := ho6.frozenAt (rs.length * 9 + 1)
        have z2 := ho6.frozenAt (rs.length * 9 + 2)
        have z3 := ho6.frozenAt (rs.length * 9 + 3)
        have z4 := ho6.frozenAt (rs.length * 9 + 4)
        have z5 := ho6.frozenAt (rs.length * 9 + 5)
        have z6 := ho6.frozenAt (rs.length * 9 + 6)
        have z7 := ho6.frozenAt (rs.length * 9 + 7)
        have z8 := ho6.frozenAt (rs.length * 9 + 8)
        obtain ⟨q0, q1, q2, q3, q4, q5, q6, q7, q8⟩ := cells_nine ho6 hlen (by omega)
        have hcz := hS6.1.thaw 3
        have hcc := hS6.1.cell 3
        simp at hcc
        have hcl := hS6.1.lt
        have hggb : g ≠ gb := by omega
        have HB6 := Lib.hid hS6.1
        have HO7 := Lib.hid (own_nine ho6 hlen (.int .i64 x.op) (.string x.tab) (.string x.name) (.int .i64 x.t) (.int .i64 x.c) (.int .i64 x.vk) (.int .i64 x.vi) (.string x.vs) (.slice PA x.l.length ka))
        have HG7 := Lib.hid (grown_nine (p := rs.length * 9) hg6 (hor6.elim (fun h => Or.inl h.symm) (fun h => Or.inr (by cases h; exact Nat.le_refl _))) (.int .i64 x.op) (.string x.tab) (.string x.name) (.int .i64 x.t) (.int .i64 x.c) (.int .i64 x.vk) (.int .i64 x.vi) (.string x.vs) (.slice PA x.l.length ka))
        have HSf := Lib.hid (HDa.out.putR HCS.out HPA.out (x := x) (ka := ka) HO7.out HG7.out hor6)
        have HB7 := Lib.hid (HB6.out.nine (p := rs.length * 9) hggb (.int .i64 x.op) (.string x.tab) (.string x.name) (.int .i64 x.t) (.int .i64 x.c) (.int .i64 x.vk) (.int .i64 x.vi) (.string x.vs) (.slice PA x.l.length ka))
        have HCm := Lib.hid (nine_comm w6 (g := g) (b := gb) (j := 3) (p := rs.length * 9) hggb (.slice (some ⟨gb, 0, none⟩) (rs.length + 1) c6) (.int .i64 x.op) (.string x.tab) (.string x.name) (.int .i64 x.t) (.int .i64 x.c) (.int .i64 x.vk) (.int .i64 x.vi) (.string x.vs) (.slice PA x.l.length ka))
        clear hS0 hSa hS6 HD HDa HON HO7 HG7 HBX hbb hbx2 hor6 hg6 HS
        refine wpAny_ready (rs := [9, 12]) (by kernel_rfl) (by simp) ?_
        refine AllReady.cons rfl (fun K hK => ?_) (AllReady.cons rfl (fun K hK => ?_) AllReady.nil)
        · have HK := Lib.hid hK
          clear hK
          go_simp
          refine HK.out _ _ ?_
          clear HK K z0 z1 z2 z3 z4 z5 z6 z7 z8 q0 q1 q2 q3 q4 q5 q6 q7 q8 hcz hcc hcl HCm ho6 HB6
          generalize (((((((((w6.setCell ⟨gb, rs.length * 9, none⟩ (.int .i64 x.op)).setCell ⟨gb, rs.length * 9 + 1, none⟩ (.string x.tab)).setCell ⟨gb, rs.length * 9 + 2, none⟩ (.string x.name)).setCell ⟨gb, rs.length * 9 + 3, none⟩ (.int .i64 x.t)).setCell ⟨gb, rs.length * 9 + 4, none⟩ (.int .i64 x.c)).setCell ⟨gb, rs.length * 9 + 5, none⟩ (.int .i64 x.vk)).setCell ⟨gb, rs.length * 9 + 6, none⟩ (.int .i64 x.vi)).setCell ⟨gb, rs.length * 9 + 7, none⟩ (.string x.vs)).setCell ⟨gb, rs.length * 9 + 8, none⟩ (.slice PA x.l.length ka)) = W7 at *
          have hcz := HB7.out.thaw 3
          have hcc := HB7.out.cell 3
          simp at hcc
          have hcl := HB7.out.lt
          refine wpAny_ready (rs := [12]) (by kernel_rfl) (by simp) ?_
          refine AllReady.cons rfl (fun K hK => ?_) AllReady.nil
          have HK := Lib.hid hK
          clear hK
          go_simp
          refine HK.out _ _ ?_
          clear HK K
          refine ⟨by kernel_rfl, ?_⟩
          have HF := Lib.hid (HFin.out _ _ _ _ _ (HWp.out _ _ _ _ _ HSf.out))
          clear HSf HFin hcz hcc hcl HB7
          go_wp2
          first | go_end0 | skip
          exact HF.out
        · have HK := Lib.hid hK
          clear hK
          go_simp
          refine HK.out _ _ ?_
          clear HK K z0 z1 z2 z3 z4 z5 z6 z7 z8 q0 q1 q2 q3 q4 q5 q6 q7 q8
          have HO8 := Lib.hid (ownsRow_setCell_below ho6 (a := ⟨g, 3, none⟩) hgb (.slice (some ⟨gb, 0, none⟩) (rs.length + 1) c6))
          have HF := Lib.hid (HFin.out _ _ _ _ _ (HWp.out _ _ _ _ _ HSf.out))
          have HF2 : Hid (PutF pr u v base g core AS kS vL (l ++ [x]) (.returned (.tuple #[])) _) := Lib.hid (HCm.out ▸ HF.out)
          clear HF HSf HFin hcz hcc hcl HB7 HB6 HCm ho6
          generalize (w6.setCell ⟨g, 3, none⟩ (.slice (some ⟨gb, 0, none⟩) (rs.length + 1) c6)) = W8 at *
          have z0 := HO8.out.frozenAt (rs.length * 9)
          have z1 := HO8.out.frozenAt (rs.length * 9 + 1)
          have z2 := HO8.out.frozenAt (rs.length * 9 + 2)
          have z3 := HO8.out.frozenAt (rs.length * 9 + 3)
          have z4 := HO8.out.frozenAt (rs.length * 9 + 4)
          have z5 := HO8.out.frozenAt (rs.length * 9 + 5)
          have z6 := HO8.out.frozenAt (rs.length * 9 + 6)
          have z7 := HO8.out.frozenAt (rs.length * 9 + 7)
          have z8 := HO8.out.frozenAt (rs.length * 9 + 8)
          obtain ⟨q0, q1, q2, q3, q4, q5, q6, q7, q8⟩ := cells_nine HO8.out hlen (by omega)
          have hgl8 : gb < W8.heap.size := own_lt HO8.out gb rfl
          refine wpAny_ready (rs := [9]) (by kernel_rfl) (by simp) ?_
          refine AllReady.cons rfl (fun K hK => ?_) AllReady.nil
          have HK := Lib.hid hK
          clear hK
          go_simp
          refine HK.out _ _ ?_
          clear HK K
          refine ⟨by kernel_rfl, ?_⟩
          clear z0 z1 z2 z3 z4 z5 z6 z7 z8 q0 q1 q2 q3 q4 q5 q6 q7 q8 HO8
          generalize (((((((((W8.setCell ⟨gb, rs.length * 9, none⟩ (.int .i64 x.op)).setCell ⟨gb, rs.length * 9 + 1, none⟩ (.string x.tab)).setCell ⟨gb, rs.length * 9 + 2, none⟩ (.string x.name)).setCell ⟨gb, rs.length * 9 + 3, none⟩ (.int .i64 x.t)).setCell ⟨gb, rs.length * 9 + 4, none⟩ (.int .i64 x.c)).setCell ⟨gb, rs.length * 9 + 5, none⟩ (.int .i64 x.vk)).setCell ⟨gb, rs.length * 9 + 6, none⟩ (.int .i64 x.vi)).setCell ⟨gb, rs.length * 9 + 7, none⟩ (.string x.vs)).setCell ⟨gb, rs.length * 9 + 8, none⟩ (.slice PA x.l.length ka)) = W9 at *
          go_wp2
          first | go_end0 | skip
          exact HF2.out
      · have hwi : wi = 3 := by rw [HWd.out]; rfl
        subst hwi
        have HWp := Lib.hid (HW3.out rfl)
        clear HW0 HW3 HWd lR lW
        go_upto_region 14 with (go_at_call 43; first | ((with_reducible refine (HI0.out _ HS.out.blk).grows.mono ?_); rintro e W ⟨rfl, hgn⟩; have HS := Lib.hid (HS.out.more hgn); have HBE := Lib.hid (HBE.out.grew hgn); have hcn := cell_keep hgn hbu hcn; have hbu := Nat.lt_of_lt_of_le hbu (Grew.size hgn); clear hgn) | ((with_reducible refine (HI1.out _ HS.out.blk).grows.mono ?_); rintro e W ⟨rfl, hgn⟩; have HS := Lib.hid (HS.out.more hgn); have HBE := Lib.hid (HBE.out.grew hgn); clear hgn))
        obtain ⟨AN, cN, hvN, hoN⟩ := HS.out.edges
        subst hvN
        have HON := Lib.hid hoN
        clear hoN
        have HD := Lib.hid (HS.out.more (Grew.refl W).drew)
        have hS0 : Blok W.drew g 44 #[.int .i64 core, .slice AS vs.length kS, .slice AN es.length cN, vR, vL, vW] ∧ Blok W.drew be 34 #[.int .i64 e1, .int .i64 e2, .int .i64 e3, .int .i64 e4] := ⟨HD.out.blk, HBE.out.grew (Grew.refl W).drew⟩
        refine wp_region_last (fun W => Blok W g 44 #[.int .i64 core, .slice AS vs.length kS, .slice AN es.length cN, vR, vL, vW] ∧ Blok W be 34 #[.int .i64 e1, .int .i64 e2, .int .i64 e3, .int .i64 e4]) 10 rfl (by kernel_rfl) ?_
        refine last_take 0 (v := ?_) rfl (by kernel_rfl) (by kernel_rfl) (by kernel_rfl) (by kernel_rfl) (fun _ _ _ h => h) (by rfl) ?_ hS0 ?_
        rotate_left
        · (intro W hW; go_simp; with_reducible rfl)
        refine last_take 1 (v := ?_) rfl (by kernel_rfl) (by kernel_rfl) (by kernel_rfl) (by kernel_rfl) (fun _ _ _ h => h) (by rfl) ?_ hS0 ?_
        rotate_left
        · (intro W hW; go_simp; with_reducible rfl)
        refine last_take 2 (v := ?_) rfl (by kernel_rfl) (by kernel_rfl) (by kernel_rfl) (by kernel_rfl) (fun _ _ _ h => h) (by rfl) ?_ hS0 ?_
        rotate_left
        · (intro W hW; go_simp; with_reducible rfl)
        refine last_take 3 (v := ?_) rfl (by kernel_rfl) (by kernel_rfl) (by kernel_rfl) (by kernel_rfl) (fun _ _ _ h => h) (by rfl) ?_ hS0 ?_
        rotate_left
        · (intro W hW; go_simp; with_reducible rfl)
        refine last_norm (a' := ?_) ?_ ?_
        rotate_left
        · (go_simp; with_reducible rfl)
        refine last_take 4 (v := ?_) rfl (by kernel_rfl) (by kernel_rfl) (by kernel_rfl) (by kernel_rfl) (fun _ _ _ h => h) (by rfl) ?_ hS0 ?_
        rotate_left
        · (intro W hW; have q := hW.1.cell 2; have ql := hW.1.lt; simp at q; go_simp; with_reducible rfl)
        refine last_norm (a' := ?_) ?_ ?_
        rotate_left
        · (go_simp; with_reducible rfl)
        refine last_take 5 (v := ?_) rfl (by kernel_rfl) (by kernel_rfl) (by kernel_rfl) (by kernel_rfl) (fun _ _ _ h => h) (by rfl) ?_ hS0 ?_
        rotate_left
        · (intro W hW; obtain ⟨ql, q0, q1, q2, q3, _, _, _, _⟩ := ed_in hW.2; go_simp; with_reducible rfl)
        refine last_norm (a' := ?_) ?_ ?_
        rotate_left
        · (go_simp; with_reducible rfl)
        refine last_call 6 (by kernel_rfl) (by kernel_rfl) rfl (by rfl) (fun K hK => ?_)
        go_simp
        go_wp2_with fail
        have HDa := Lib.hid (HD.out.more ((Grew.refl W.drew).alloc (.cells #[.int .i64 e1, .int .i64 e2, .int .i64 e3, .int .i64 e4] 34)))
        have hSa : Blok (W.drew.alloc (.cells #[.int .i64 e1, .int .i64 e2, .int .i64 e3, .int .i64 e4] 34)) g 44 #[.int .i64 core, .slice AS vs.length kS, .slice AN es.length cN, vR, vL, vW] ∧ Blok (W.drew.alloc (.cells #[.int .i64 e1, .int .i64 e2, .int .i64 e3, .int .i64 e4] 34)) be 34 #[.int .i64 e1, .int .i64 e2, .int .i64 e3, .int .i64 e4] := ⟨HDa.out.blk, hS0.2.alloc _⟩
        refine hK.out _ _ hSa ?_
        clear hK K
        refine last_call 7 (by kernel_rfl) (by kernel_rfl) rfl (by rfl) (fun K hK => ?_)
        refine wp_appC (.tmp 118) (.tmp 120) 41 34 4 rfl base (.agg #[.int .i64 0, .int .i64 0, .int .i64 0, .int .i64 0]) 32 Try.underlying41 infoEd rfl (by decide) (by decide) _ es.length _ rfl (own_alloc (own_grewE HON.out (Grew.refl W).drew) _) _ 1 1 [.int .i64 e1, .int .i64 e2, .int .i64 e3, .int .i64 e4] rfl rfl (row_new W.drew _ _ #[.int .i64 e1, .int .i64 e2, .int .i64 e3, .int .i64 e4] rfl) (by simp [Value.oneCell']) (by omega) HDa.out.size ?_
        intro A6 c6 w6 ho6 hg6 hor6
        have hbb := own_base HON.out
        have hS6 : Blok w6 g 44 #[.int .i64 core, .slice AS vs.length kS, .slice AN es.length cN, vR, vL, vW] ∧ Blok w6 be 34 #[.int .i64 e1, .int .i64 e2, .int .i64 e3, .int .i64 e4] := ⟨hSa.1.grown hg6 (fun e => by have := hbb g e; omega), hSa.2.grown hg6 (fun e => Nat.lt_asymm hbe (HLE.out be e))⟩
        have HSf := Lib.hid (HDa.out.putE (e := ⟨e1, e2, e3, e4⟩) ho6 hg6 hor6)
        refine hK.out _ _ hS6 ?_
        clear hK K
        refine last_take 8 (v := ?_) rfl (by kernel_rfl) (by kernel_rfl) (by kernel_rfl) (by kernel_rfl) (fun _ _ _ h => h) (by rfl) ?_ hS6 ?_
        rotate_left
        · (intro W hW; go_simp; with_reducible rfl)
        refine last_take 9 (v := ?_) rfl (by kernel_rfl) (by kernel_rfl) (by kernel_rfl) (by kernel_rfl) (fun _ _ _ h => h) (by rfl) ?_ hS6 ?_
        rotate_left
        · (intro W hW; go_simp; with_reducible rfl)
        refine last_norm (a' := ?_) ?_ ?_
        rotate_left
        · (go_simp; with_reducible rfl)
        have z2 := hS6.1.thaw 2
        have zc := hS6.1.cell 2
        have zl := hS6.1.lt
        simp at zc
        refine last_last (by kernel_rfl) (by kernel_rfl) rfl (by rfl) (fun K hK => ?_)
        go_simp
        go_wp2_with fail
        refine hK.out _ _ ?_
        clear hK K
        have HF := Lib.hid (HFin.out _ _ _ _ _ (HWp.out _ _ _ _ _ HSf.out))
        clear HSf HFin hS6 hSa hS0 z2 zc zl hor6 hg6 ho6 HD HDa HON HS HBE
        go_wp2
        first | go_end0 | skip
        exact HF.out
    · have hn00 : n = 0 := by omega
      subst hn00
      rw [if_pos h1] at HWd
      have hwi : wi = 2 := HWd.out
      subst hwi
      obtain ⟨t, ht⟩ : ∃ t : Nat, us[0] = (t : Int) := ⟨us[0].toNat, by omega⟩
      have hus : us = [(t : Int)] := by
        obtain ⟨y, rfl⟩ := List.length_eq_one_iff.1 h1
        simp only [List.getElem_cons_zero] at ht
        rw [ht]
      subst hus
      simp only [List.getElem_cons_zero] at HI0 HI1 hc0 hcn ht1 ht0 ht
      have htc : t < core := by omega
      have HWp := Lib.hid (HW2.out rfl t rfl)
      have hsq := HSat.out t htc
      have hvl : vs.length = core := by rw [HS.out.sizes]; exact HSl.out
      have htl : t < vs.length := by omega
      have htl' : (t : Int) < (vs.length : Int) := by omega
      have ltt := lT t
      clear HW0 HW2 HW3 HWd HSat HSl lE lW lR lT ht0 ht1 ht h1 hnl hnn hn0 hn
      generalize nT core t l = lq at *
      simp only [List.length_cons, List.length_nil, Nat.zero_add] at *
      have hbbu : bx < bu := HUo.out bu rfl
      clear hcn
      go_upto_region 9 with (go_at_call 43; (with_reducible refine (HI0.out _ HS.out.blk).grows.mono ?_); rintro e W ⟨rfl, hgn⟩; have HS := Lib.hid (HS.out.more hgn); have HBX := Lib.hid (HBX.out.grew hgn); have HRU := Lib.hid (HRU.out.grew hgn); have hc0 := cell_keep hgn hbu hc0; have hbu := Nat.lt_of_lt_of_le hbu (Grew.size hgn); clear hgn)
      refine wp_region_any (by kernel_rfl) ?_
      refine wpAny_ready (rs := [0]) (by kernel_rfl) (by simp) ?_
      refine AllReady.cons rfl (fun K hK => ?_) AllReady.nil
      go_simp
      go_wp2_with fail
      refine wpAny_ready (rs := [1, 2]) (by kernel_rfl) (by simp) ?_
      refine AllReady.cons rfl (fun K hK => ?_) (AllReady.cons rfl (fun K hK => ?_) AllReady.nil)
      · have HK := Lib.hid hK
        clear hK
        go_simp
        refine HK.out _ _ ?_
        clear HK K
        refine wpAny_ready (rs := [2]) (by kernel_rfl) (by simp) ?_
        refine AllReady.cons rfl (fun K hK => ?_) AllReady.nil
        have HK := Lib.hid hK
        clear hK
        go_simp
        refine HK.out _ _ ?_
        clear HK K
        refine wpAny_ready (rs := [3]) (by kernel_rfl) (by simp) ?_
        refine AllReady.cons rfl (fun K hK => ?_) AllReady.nil
        have HK := Lib.hid hK
        clear hK
        go_simp
        refine HK.out _ _ ?_
        clear HK K
        refine ⟨by kernel_rfl, ?_⟩
        have hgz : Grew W (W.alloc (.cells #[.bool false] 4)).drew := ((Grew.refl W).alloc _).drew
        have HSz := Lib.hid (HS.out.more hgz)
        have HBXz := Lib.hid (HBX.out.grew hgz)
        have HRUz := Lib.hid (HRU.out.grew hgz)
        clear hgz HS HBX HRU hc0 hbu HBE HI0 HI1
        generalize (W.alloc (.cells #[.bool false] 4)).drew = Wz at *
        generalize W.heap.size = bz at *
        have HS := HSz
        have HBX := HBXz
        have HRU := HRUz
        clear HSz HBXz HRUz W
        go_upto_region 12 with fail
        obtain ⟨b0, capS, hvS, hb01, hb02⟩ := World.ownsRow.form HS.out.outer (by omega)
        injection hvS with hvS1 _ hvS3
        subst hvS1 hvS3
        have hvq : vs[t]? = some vs[t] := List.getElem?_eq_getElem htl
        obtain ⟨AN, cN, hvN, css, hcs, hoN⟩ := HS.out.bins.each (t + 2) vs[t] lq (by simp) (by simpa using hsq)
        have HCS := Lib.hid hcs
        have HON := Lib.hid hoN
        have hlen := hcs.flat
        have HLq : Hid (∀ i, (Value.slice AN lq.length cN).ownBlock = some i → i < bx) := Lib.hid fun i hi => HLS.out t vs[t] lq hvq hsq i (by rw [hvN]; exact hi)
        rw [hvN] at hvq
        clear hcs hoN hvN
        have HD := Lib.hid (HS.out.more (Grew.refl Wz).drew)
        have hS0 : Blok Wz.drew g 44 #[.int .i64 core, .slice (some ⟨b0, 0, none⟩) vs.length kS, vE, vR, vL, vW] ∧ Blok Wz.drew bx 27 #[.int .i64 x.op, .string x.tab, .string x.name, .int .i64 x.t, .int .i64 x.c, .int .i64 x.vk, .int .i64 x.vi, .string x.vs, .slice PA x.l.length ka] ∧ Row Wz.drew (some ⟨bu, ou, none⟩) (iV [(t : Int)]) ∧ Wz.drew.ownsRow base 22 1 (.slice (some ⟨b0, 0, none⟩) vs.length kS) vs.length vs := ⟨HD.out.blk, HBX.out.grew (Grew.refl Wz).drew, HRU.out.grew (Grew.refl Wz).drew, HD.out.outer⟩
        refine wp_region_last (fun W => Blok W g 44 #[.int .i64 core, .slice (some ⟨b0, 0, none⟩) vs.length kS, vE, vR, vL, vW] ∧ Blok W bx 27 #[.int .i64 x.op, .string x.tab, .string x.name, .int .i64 x.t, .int .i64 x.c, .int .i64 x.vk, .int .i64 x.vi, .string x.vs, .slice PA x.l.length ka] ∧ Row W (some ⟨bu, ou, none⟩) (iV [(t : Int)]) ∧ W.ownsRow base 22 1 (.slice (some ⟨b0, 0, none⟩) vs.length kS) vs.length vs) 20 rfl (by kernel_rfl) ?_
        refine last_take 0 (v := ?_) rfl (by kernel_rfl) (by kernel_rfl) (by kernel_rfl) (by kernel_rfl) (fun _ _ _ h => h) (by rfl) ?_ hS0 ?_
        rotate_left
        · (intro W hW; go_simp; with_reducible rfl)
        refine last_take 1 (v := ?_) rfl (by kernel_rfl) (by kernel_rfl) (by kernel_rfl) (by kernel_rfl) (fun _ _ _ h => h) (by rfl) ?_ hS0 ?_
        rotate_left
        · (intro W hW; go_simp; with_reducible rfl)
        refine last_take 2 (v := ?_) rfl (by kernel_rfl) (by kernel_rfl) (by kernel_rfl) (by kernel_rfl) (fun _ _ _ h => h) (by rfl) ?_ hS0 ?_
        rotate_left
        · (intro W hW; go_simp; with_reducible rfl)
        refine last_take 7 (v := ?_) rfl (by kernel_rfl) (by kernel_rfl) (by kernel_rfl) (by kernel_rfl) (fun _ _ _ h => h) (by rfl) ?_ hS0 ?_
        rotate_left
        · (intro W hW; go_simp; with_reducible rfl)
        refine last_take 8 (v := ?_) rfl (by kernel_rfl) (by kernel_rfl) (by kernel_rfl) (by kernel_rfl) (fun _ _ _ h => h) (by rfl) ?_ hS0 ?_
        rotate_left
        · (intro W hW; go_simp; with_reducible rfl)
        refine last_take 9 (v := ?_) rfl (by kernel_rfl) (by kernel_rfl) (by kernel_rfl) (by kernel_rfl) (fun _ _ _ h => h) (by rfl) ?_ hS0 ?_
        rotate_left
        · (intro W hW; go_simp; with_reducible rfl)
        refine last_norm (a' := ?_) ?_ ?_
        rotate_left
        · (go_simp; with_reducible rfl)
        refine last_take 3 (v := ?_) rfl (by kernel_rfl) (by kernel_rfl) (by kernel_rfl) (by kernel_rfl) (fun _ _ _ h => h) (by rfl) ?_ hS0 ?_
        rotate_left
        · (intro W hW; have q := hW.1.cell 1; have ql := hW.1.lt; simp at q; go_simp; with_reducible rfl)
        refine last_norm (a' := ?_) ?_ ?_
        rotate_left
        · (go_simp; with_reducible rfl)
        refine last_take 10 (v := ?_) rfl (by kernel_rfl) (by kernel_rfl) (by kernel_rfl) (by kernel_rfl) (fun _ _ _ h => h) (by rfl) ?_ hS0 ?_
        rotate_left
        · (intro W hW; have q := hW.1.cell 1; have ql := hW.1.lt; simp at q; go_simp; with_reducible rfl)
        refine last_norm (a' := ?_) ?_ ?_
        rotate_left
        · (go_simp; with_reducible rfl)
        refine last_take 4 (v := ?_) rfl (by kernel_rfl) (by kernel_rfl) (by kernel_rfl) (by kernel_rfl) (fun _ _ _ h => h) (by rfl) ?_ hS0 ?_
        rotate_left
        · (intro W hW; go_simp; with_reducible rfl)
        refine last_take 5 (v := ?_) rfl (by kernel_rfl) (by kernel_rfl) (by kernel_rfl) (by kernel_rfl) (fun _ _ _ h => h) (by rfl) ?_ hS0 ?_
        rotate_left
        · (intro W hW; go_simp; with_reducible rfl)
        refine last_take 11 (v := ?_) rfl (by kernel_rfl) (by kernel_rfl) (by kernel_rfl) (by kernel_rfl) (fun _ _ _ h => h) (by rfl) ?_ hS0 ?_
        rotate_left
        · (intro W hW; go_simp; with_reducible rfl)
        refine last_take 12 (v := ?_) rfl (by kernel_rfl) (by kernel_rfl) (by kernel_rfl) (by kernel_rfl) (fun _ _ _ h => h) (by rfl) ?_ hS0 ?_
        rotate_left
        · (intro W hW; go_simp; with_reducible rfl)
        refine last_norm (a' := ?_) ?_ ?_
        rotate_left
        · (go_simp; with_reducible rfl)
        refine last_take 6 (v := ?_) rfl (by kernel_rfl) (by kernel_rfl) (by kernel_rfl) (by kernel_rfl) (fun _ _ _ h => h) (by rfl) ?_ hS0 ?_
        rotate_left
        · (intro W hW; obtain ⟨bu', ou', hbe', hbl', hbc'⟩ := rowI_at hW.2.2.1 (j := 0) (by simp); cases hbe'; simp at hbc'; go_simp; with_reducible rfl)
        refine last_norm (a' := ?_) ?_ ?_
        rotate_left
        · (go_simp; with_reducible rfl)
        refine last_take 13 (v := ?_) rfl (by kernel_rfl) (by kernel_rfl) (by kernel_rfl) (by kernel_rfl) (fun _ _ _ h => h) (by rfl) ?_ hS0 ?_
        rotate_left
        · (intro W hW; obtain ⟨bu', ou', hbe', hbl', hbc'⟩ := rowI_at hW.2.2.1 (j := 0) (by simp); cases hbe'; simp at hbc'; go_simp; with_reducible rfl)
        refine last_norm (a' := ?_) ?_ ?_
        rotate_left
        · (go_simp; with_reducible rfl)
        refine last_take 14 (v := ?_) rfl (by kernel_rfl) (by kernel_rfl) (by kernel_rfl) (by kernel_rfl) (fun _ _ _ h => h) (by rfl) ?_ hS0 ?_
        rotate_left
        · (intro W hW; go_simp; with_reducible rfl)
        refine last_norm (a' := ?_) ?_ ?_
        rotate_left
        · (go_simp; with_reducible rfl)
        refine last_take 15 (v := ?_) rfl (by kernel_rfl) (by kernel_rfl) (by kernel_rfl) (by kernel_rfl) (fun _ _ _ h => h) (by rfl) ?_ hS0 ?_
        rotate_left
        · (intro W hW; have q := hW.2.2.2.cellAt t (by omega); have ql : b0 < W.heap.size := own_lt hW.2.2.2 b0 rfl; rw [hvq] at q; go_simp; with_reducible rfl)
        refine last_norm (a' := ?_) ?_ ?_
        rotate_left
        · (go_simp; with_reducible rfl)
        refine last_take 16 (v := ?_) rfl (by kernel_rfl) (by kernel_rfl) (by kernel_rfl) (by kernel_rfl) (fun _ _ _ h => h) (by rfl) ?_ hS0 ?_
        rotate_left
        · (intro W hW; obtain ⟨ql, q0, q1, q2, q3, q4, q5, q6, q7, q8⟩ := blok9c hW.2.1; go_simp; with_reducible rfl)
        refine last_norm (a' := ?_) ?_ ?_
        rotate_left
        · (go_simp; with_reducible rfl)
        refine last_call 17 (by kernel_rfl) (by kernel_rfl) rfl (by rfl) (fun K hK => ?_)
        go_simp
        go_wp2_with fail
        have HDa := Lib.hid (HD.out.more ((Grew.refl Wz.drew).alloc (.cells #[.int .i64 x.op, .string x.tab, .string x.name, .int .i64 x.t, .int .i64 x.c, .int .i64 x.vk, .int .i64 x.vi, .string x.vs, .slice PA x.l.length ka] 27)))
        have hSa : Blok (Wz.drew.alloc (.cells #[.int .i64 x.op, .string x.tab, .string x.name, .int .i64 x.t, .int .i64 x.c, .int .i64 x.vk, .int .i64 x.vi, .string x.vs, .slice PA x.l.length ka] 27)) g 44 #[.int .i64 core, .slice (some ⟨b0, 0, none⟩) vs.length kS, vE, vR, vL, vW] ∧ Blok (Wz.drew.alloc (.cells #[.int .i64 x.op, .string x.tab, .string x.name, .int .i64 x.t, .int .i64 x.c, .int .i64 x.vk, .int .i64 x.vi, .string x.vs, .slice PA x.l.length ka] 27)) bx 27 #[.int .i64 x.op, .string x.tab, .string x.name, .int .i64 x.t, .int .i64 x.c, .int .i64 x.vk, .int .i64 x.vi, .string x.vs, .slice PA x.l.length ka] ∧ Row (Wz.drew.alloc (.cells #[.int .i64 x.op, .string x.tab, .string x.name, .int .i64 x.t, .int .i64 x.c, .int .i64 x.vk, .int .i64 x.vi, .string x.vs, .slice PA x.l.length ka] 27)) (some ⟨bu, ou, none⟩) (iV [(t : Int)]) ∧ (Wz.drew.alloc (.cells #[.int .i64 x.op, .string x.tab, .string x.name, .int .i64 x.t, .int .i64 x.c, .int .i64 x.vk, .int .i64 x.vi, .string x.vs, .slice PA x.l.length ka] 27)).ownsRow base 22 1 (.slice (some ⟨b0, 0, none⟩) vs.length kS) vs.length vs := ⟨HDa.out.blk, hS0.2.1.alloc _, hS0.2.2.1.grew ((Grew.refl _).alloc _), HDa.out.outer⟩
        refine hK.out _ _ hSa ?_
        clear hK K
        refine last_call 18 (by kernel_rfl) (by kernel_rfl) rfl (by rfl) (fun K hK => ?_)
        refine wp_appC (.tmp 107) (.tmp 109) 22 27 9 rfl base (.agg #[.int .i64 0, .string ⟨#[]⟩, .string ⟨#[]⟩, .int .i64 0, .int .i64 0, .int .i64 0, .int .i64 0, .string ⟨#[]⟩, .slice none 0 0]) 112 Try.underlying22 infoE rfl (by decide) (by decide) _ lq.length _ rfl (own_alloc (own_grewE HON.out (Grew.refl Wz).drew) _) _ 1 1 (exC x PA ka) rfl rfl (row_new Wz.drew _ _ #[.int .i64 x.op, .string x.tab, .string x.name, .int .i64 x.t, .int .i64 x.c, .int .i64 x.vk, .int .i64 x.vi, .string x.vs, .slice PA x.l.length ka] rfl) (exC_one _ _ _) (by omega) HDa.out.size ?_
        intro A6 c6' w6 ho6 hg6 hor6
        have hS6 : Blok w6 g 44 #[.int .i64 core, .slice (some ⟨b0, 0, none⟩) vs.length kS, vE, vR, vL, vW] ∧ Blok w6 bx 27 #[.int .i64 x.op, .string x.tab, .string x.name, .int .i64 x.t, .int .i64 x.c, .int .i64 x.vk, .int .i64 x.vi, .string x.vs, .slice PA x.l.length ka] ∧ Row w6 (some ⟨bu, ou, none⟩) (iV [(t : Int)]) ∧ w6.ownsRow base 22 1 (.slice (some ⟨b0, 0, none⟩) vs.length kS) vs.length vs := scan_kept hSa hg6 HDa.out HON.out (fun _ _ => own_alloc (own_grewE HON.out (Grew.refl Wz).drew) _) HLq.out hbbu
        have HSf := Lib.hid (HDa.out.putS (b0 := b0) rfl hvq hsq (ExSl.snoc HCS.out HPA.out ho6) hg6 hor6)
        refine hK.out _ _ hS6 ?_
        clear hK K
        refine last_take 19 (v := ?_) rfl (by kernel_rfl) (by kernel_rfl) (by kernel_rfl) (by kernel_rfl) (fun _ _ _ h => h) (by rfl) ?_ hS6 ?_
        rotate_left
        · (intro W hW; go_simp; with_reducible rfl)
        refine last_norm (a' := ?_) ?_ ?_
        rotate_left
        · (go_simp; with_reducible rfl)
        have z2 := hS6.2.2.2.frozenAt t
        have zc := hS6.2.2.2.cellAt t (by omega)
        rw [hvq] at zc
        have zl : b0 < w6.heap.size := own_lt hS6.2.2.2 b0 rfl
        refine last_last (by kernel_rfl) (by kernel_rfl) rfl (by rfl) (fun K hK => ?_)
        go_simp
        go_wp2_with fail
        refine hK.out _ _ ?_
        clear hK K
        have HF := Lib.hid (HFin.out _ _ _ _ _ (HWp.out _ _ _ _ _ HSf.out))
        clear HSf HFin hS6 hSa hS0 z2 zc zl hor6 hg6 ho6 HD HDa HON HS HBX HRU
        go_wp2
        first | go_end0 | skip
        exact HF.out
      · have HK := Lib.hid hK
        clear hK
        go_simp
        refine HK.out _ _ ?_
        clear HK K
        refine wpAny_ready (rs := [1]) (by kernel_rfl) (by simp) ?_
        refine AllReady.cons rfl (fun K hK => ?_) AllReady.nil
        have HK := Lib.hid hK
        clear hK
        go_simp
        refine HK.out _ _ ?_
        clear HK K
        refine wpAny_ready (rs := [3]) (by kernel_rfl) (by simp) ?_
        refine AllReady.cons rfl (fun K hK => ?_) AllReady.nil
        have HK := Lib.hid hK
        clear hK
        go_simp
        refine HK.out _ _ ?_
        clear HK K
        refine ⟨by kernel_rfl, ?_⟩
        have hgz : Grew W (W.alloc (.cells #[.bool true] 4)).drew := ((Grew.refl W).alloc _).drew
        have HSz := Lib.hid (HS.out.more hgz)
        have HBXz := Lib.hid (HBX.out.grew hgz)
        have HRUz := Lib.hid (HRU.out.grew hgz)
        clear hgz HS HBX HRU hc0 hbu HBE HI0 HI1
        generalize (W.alloc (.cells #[.bool true] 4)).drew = Wz at *
        generalize W.heap.size = bz at *
        have HS := HSz
        have HBX := HBXz
        have HRU := HRUz
        clear HSz HBXz HRUz W
        go_upto_region 10 with fail
        obtain ⟨b0, capS, hvS, hb01, hb02⟩ := World.ownsRow.form HS.out.outer (by omega)
        injection hvS with hvS1 _ hvS3
        subst hvS1 hvS3
        have hvq : vs[t]? = some vs[t] := List.getElem?_eq_getElem htl
        obtain ⟨AN, cN, hvN, css, hcs, hoN⟩ := HS.out.bins.each (t + 2) vs[t] lq (by simp) (by simpa using hsq)
        have HCS := Lib.hid hcs
        have HON := Lib.hid hoN
        have hlen := hcs.flat
        have HLq : Hid (∀ i, (Value.slice AN lq.length cN).ownBlock = some i → i < bx) := Lib.hid fun i hi => HLS.out t vs[t] lq hvq hsq i (by rw [hvN]; exact hi)
        rw [hvN] at hvq
        clear hcs hoN hvN
        have HD := Lib.hid (HS.out.more (Grew.refl Wz).drew)
        have hS0 : Blok Wz.drew g 44 #[.int .i64 core, .slice (some ⟨b0, 0, none⟩) vs.length kS, vE, vR, vL, vW] ∧ Blok Wz.drew bx 27 #[.int .i64 x.op, .string x.tab, .string x.name, .int .i64 x.t, .int .i64 x.c, .int .i64 x.vk, .int .i64 x.vi, .string x.vs, .slice PA x.l.length ka] ∧ Row Wz.drew (some ⟨bu, ou, none⟩) (iV [(t : Int)]) ∧ Wz.drew.ownsRow base 22 1 (.slice (some ⟨b0, 0, none⟩) vs.length kS) vs.length vs := ⟨HD.out.blk, HBX.out.grew (Grew.refl Wz).drew, HRU.out.grew (Grew.refl Wz).drew, HD.out.outer⟩
        refine wp_region_last (fun W => Blok W g 44 #[.int .i64 core, .slice (some ⟨b0, 0, none⟩) vs.length kS, vE, vR, vL, vW] ∧ Blok W bx 27 #[.int .i64 x.op, .string x.tab, .string x.name, .int .i64 x.t, .int .i64 x.c, .int .i64 x.vk, .int .i64 x.vi, .string x.vs, .slice PA x.l.length ka] ∧ Row W (some ⟨bu, ou, none⟩) (iV [(t : Int)]) ∧ W.ownsRow base 22 1 (.slice (some ⟨b0, 0, none⟩) vs.length kS) vs.length vs) 14 rfl (by kernel_rfl) ?_
        refine last_take 0 (v := ?_) rfl (by kernel_rfl) (by kernel_rfl) (by kernel_rfl) (by kernel_rfl) (fun _ _ _ h => h) (by rfl) ?_ hS0 ?_
        rotate_left
        · (intro W hW; go_simp; with_reducible rfl)
        refine last_take 1 (v := ?_) rfl (by kernel_rfl) (by kernel_rfl) (by kernel_rfl) (by kernel_rfl) (fun _ _ _ h => h) (by rfl) ?_ hS0 ?_
        rotate_left
        · (intro W hW; go_simp; with_reducible rfl)
        refine last_take 2 (v := ?_) rfl (by kernel_rfl) (by kernel_rfl) (by kernel_rfl) (by kernel_rfl) (fun _ _ _ h => h) (by rfl) ?_ hS0 ?_
        rotate_left
        · (intro W hW; go_simp; with_reducible rfl)
        refine last_norm (a' := ?_) ?_ ?_
        rotate_left
        · (go_simp; with_reducible rfl)
        refine last_take 3 (v := ?_) rfl (by kernel_rfl) (by kernel_rfl) (by kernel_rfl) (by kernel_rfl) (fun _ _ _ h => h) (by rfl) ?_ hS0 ?_
        rotate_left
        · (intro W hW; have q := hW.1.cell 1; have ql := hW.1.lt; simp at q; go_simp; with_reducible rfl)
        refine last_norm (a' := ?_) ?_ ?_
        rotate_left
        · (go_simp; with_reducible rfl)
        refine last_take 4 (v := ?_) rfl (by kernel_rfl) (by kernel_rfl) (by kernel_rfl) (by kernel_rfl) (fun _ _ _ h => h) (by rfl) ?_ hS0 ?_
        rotate_left
        · (intro W hW; go_simp; with_reducible rfl)
        refine last_take 5 (v := ?_) rfl (by kernel_rfl) (by kernel_rfl) (by kernel_rfl) (by kernel_rfl) (fun _ _ _ h => h) (by rfl) ?_ hS0 ?_
        rotate_left
        · (intro W hW; go_simp; with_reducible rfl)
        refine last_norm (a' := ?_) ?_ ?_
        rotate_left
        · (go_simp; with_reducible rfl)
        refine last_take 6 (v := ?_) rfl (by kernel_rfl) (by kernel_rfl) (by kernel_rfl) (by kernel_rfl) (fun _ _ _ h => h) (by rfl) ?_ hS0 ?_
        rotate_left
        · (intro W hW; obtain ⟨bu', ou', hbe', hbl', hbc'⟩ := rowI_at hW.2.2.1 (j := 0) (by simp); cases hbe'; simp at hbc'; go_simp; with_reducible rfl)
        refine last_norm (a' := ?_) ?_ ?_
        rotate_left
        · (go_simp; with_reducible rfl)
        refine last_take 7 (v := ?_) rfl (by kernel_rfl) (by kernel_rfl) (by kernel_rfl) (by kernel_rfl) (fun _ _ _ h => h) (by rfl) ?_ hS0 ?_
        rotate_left
        · (intro W hW; go_simp; with_reducible rfl)
        refine last_norm (a' := ?_) ?_ ?_
        rotate_left
        · (go_simp; with_reducible rfl)
        refine last_take 8 (v := ?_) rfl (by kernel_rfl) (by kernel_rfl) (by kernel_rfl) (by kernel_rfl) (fun _ _ _ h => h) (by rfl) ?_ hS0 ?_
        rotate_left
        · (intro W hW; have q := hW.2.2.2.cellAt t (by omega); have ql : b0 < W.heap.size := own_lt hW.2.2.2 b0 rfl; rw [hvq] at q; go_simp; with_reducible rfl)
        refine last_norm (a' := ?_) ?_ ?_
        rotate_left
        · (go_simp; with_reducible rfl)
        refine last_take 9 (v := ?_) rfl (by kernel_rfl) (by kernel_rfl) (by kernel_rfl) (by kernel_rfl) (fun _ _ _ h => h) (by rfl) ?_ hS0 ?_
        rotate_left
        · (intro W hW; obtain ⟨ql, q0, q1, q2, q3, q4, q5, q6, q7, q8⟩ := blok9c hW.2.1; go_simp; with_reducible rfl)
        refine last_norm (a' := ?_) ?_ ?_
        rotate_left
        · (go_simp; with_reducible rfl)
        refine last_take 10 (v := ?_) rfl (by kernel_rfl) (by kernel_rfl) (by kernel_rfl) (by kernel_rfl) (fun _ _ _ h => h) (by rfl) ?_ hS0 ?_
        rotate_left
        · (intro W hW; go_simp; with_reducible rfl)
        refine last_norm (a' := ?_) ?_ ?_
        rotate_left
        · (go_simp; with_reducible rfl)
        refine last_call 11 (by kernel_rfl) (by kernel_rfl) rfl (by rfl) (fun K hK => ?_)
        go_simp
        go_wp2_with fail
        have HDa := Lib.hid (HD.out.more ((Grew.refl Wz.drew).alloc (.cells #[.int .i64 0, .string ⟨#[]⟩, .string ⟨#[]⟩, .int .i64 0, .int .i64 0, .int .i64 0, .int .i64 0, .string ⟨#[]⟩, .slice none 0 0] 27)))
        have hSa : Blok (Wz.drew.alloc (.cells #[.int .i64 0, .string ⟨#[]⟩, .string ⟨#[]⟩, .int .i64 0, .int .i64 0, .int .i64 0, .int .i64 0, .string ⟨#[]⟩, .slice none 0 0] 27)) g 44 #[.int .i64 core, .slice (some ⟨b0, 0, none⟩) vs.length kS, vE, vR, vL, vW] ∧ Blok (Wz.drew.alloc (.cells #[.int .i64 0, .string ⟨#[]⟩, .string ⟨#[]⟩, .int .i64 0, .int .i64 0, .int .i64 0, .int .i64 0, .string ⟨#[]⟩, .slice none 0 0] 27)) bx 27 #[.int .i64 x.op, .string x.tab, .string x.name, .int .i64 x.t, .int .i64 x.c, .int .i64 x.vk, .int .i64 x.vi, .string x.vs, .slice PA x.l.length ka] ∧ Row (Wz.drew.alloc (.cells #[.int .i64 0, .string ⟨#[]⟩, .string ⟨#[]⟩, .int .i64 0, .int .i64 0, .int .i64 0, .int .i64 0, .string ⟨#[]⟩, .slice none 0 0] 27)) (some ⟨bu, ou, none⟩) (iV [(t : Int)]) ∧ (Wz.drew.alloc (.cells #[.int .i64 0, .string ⟨#[]⟩, .string ⟨#[]⟩, .int .i64 0, .int .i64 0, .int .i64 0, .int .i64 0, .string ⟨#[]⟩, .slice none 0 0] 27)).ownsRow base 22 1 (.slice (some ⟨b0, 0, none⟩) vs.length kS) vs.length vs := ⟨HDa.out.blk, hS0.2.1.alloc _, hS0.2.2.1.grew ((Grew.refl _).alloc _), HDa.out.outer⟩
        refine hK.out _ _ hSa ?_
        clear hK K
        refine last_call 12 (by kernel_rfl) (by kernel_rfl) rfl (by rfl) (fun K hK => ?_)
        refine wp_appC (.tmp 85) (.tmp 88) 22 27 9 rfl base (.agg #[.int .i64 0, .string ⟨#[]⟩, .string ⟨#[]⟩, .int .i64 0, .int .i64 0, .int .i64 0, .int .i64 0, .string ⟨#[]⟩, .slice none 0 0]) 112 Try.underlying22 infoE rfl (by decide) (by decide) _ lq.length _ rfl (own_alloc (own_grewE HON.out (Grew.refl Wz).drew) _) _ 1 1 [.int .i64 0, .string ⟨#[]⟩, .string ⟨#[]⟩, .int .i64 0, .int .i64 0, .int .i64 0, .int .i64 0, .string ⟨#[]⟩, .slice none 0 0] rfl rfl (row_new Wz.drew _ _ #[.int .i64 0, .string ⟨#[]⟩, .string ⟨#[]⟩, .int .i64 0, .int .i64 0, .int .i64 0, .int .i64 0, .string ⟨#[]⟩, .slice none 0 0] rfl) (by intro u hu; simp only [List.mem_cons, List.not_mem_nil, or_false] at hu; rcases hu with rfl | rfl | rfl | rfl | rfl | rfl | rfl | rfl | rfl <;> rfl) (by omega) HDa.out.size ?_
        intro A6 c6' w6 ho6 hg6 hor6
        have hS6 : Blok w6 g 44 #[.int .i64 core, .slice (some ⟨b0, 0, none⟩) vs.length kS, vE, vR, vL, vW] ∧ Blok w6 bx 27 #[.int .i64 x.op, .string x.tab, .string x.name, .int .i64 x.t, .int .i64 x.c, .int .i64 x.vk, .int .i64 x.vi, .string x.vs, .slice PA x.l.length ka] ∧ Row w6 (some ⟨bu, ou, none⟩) (iV [(t : Int)]) ∧ w6.ownsRow base 22 1 (.slice (some ⟨b0, 0, none⟩) vs.length kS) vs.length vs := scan_kept hSa hg6 HDa.out HON.out (fun _ _ => own_alloc (own_grewE HON.out (Grew.refl Wz).drew) _) HLq.out hbbu
        refine hK.out _ _ hS6 ?_
        clear hK K
        refine last_take 13 (v := ?_) rfl (by kernel_rfl) (by kernel_rfl) (by kernel_rfl) (by kernel_rfl) (fun _ _ _ h => h) (by rfl) ?_ hS6 ?_
        rotate_left
        · (intro W hW; go_simp; with_reducible rfl)
        refine last_norm (a' := ?_) ?_ ?_
        rotate_left
        · (go_simp; with_reducible rfl)
        obtain ⟨gb, cap, hv, hgb1, hgb2⟩ := World.ownsRow.form ho6 (by omega)
        injection hv with hv1 _ hv3
        subst hv1 hv3
        have hne0 : gb ≠ b0 := fun e => type_apart ho6 hS6.2.2.2 (by decide) gb rfl (by rw [e]; rfl)
        have z2 := hS6.2.2.2.frozenAt t
        have zc := hS6.2.2.2.cellAt t (by omega)
        rw [hvq] at zc
        have zl : b0 < w6.heap.size := own_lt hS6.2.2.2 b0 rfl
        refine last_last (by kernel_rfl) (by kernel_rfl) rfl (by rfl) (fun K hK => ?_)
        go_simp
        go_wp2_with fail
        refine hK.out _ _ ?_
        clear hK K
        have HO7 := Lib.hid (own_nine ho6 hlen (.int .i64 x.op) (.string x.tab) (.string x.name) (.int .i64 x.t) (.int .i64 x.c) (.int .i64 x.vk) (.int .i64 x.vi) (.string x.vs) (.slice PA x.l.length ka))
        have HG7 := Lib.hid (grown_nine (p := lq.length * 9) hg6 (hor6.elim (fun h => Or.inl h.symm) (fun h => Or.inr (by cases h; exact Nat.le_refl _))) (.int .i64 x.op) (.string x.tab) (.string x.name) (.int .i64 x.t) (.int .i64 x.c) (.int .i64 x.vk) (.int .i64 x.vi) (.string x.vs) (.slice PA x.l.length ka))
        have HSf := Lib.hid (HDa.out.putS (b0 := b0) rfl hvq hsq (ExSl.snoc (x := x) (ka := ka) HCS.out HPA.out HO7.out) HG7.out hor6)
        have HCm := Lib.hid (nine_comm w6 (g := b0) (b := gb) (j := t) (p := lq.length * 9) (Ne.symm hne0) (.slice (some ⟨gb, 0, none⟩) (lq.length + 1) c6') (.int .i64 x.op) (.string x.tab) (.string x.name) (.int .i64 x.t) (.int .i64 x.c) (.int .i64 x.vk) (.int .i64 x.vi) (.string x.vs) (.slice PA x.l.length ka))
        have HF := Lib.hid (HFin.out _ _ _ _ _ (HWp.out _ _ _ _ _ HSf.out))
        have HF2 : Hid (PutF pr u v base g core (some ⟨b0, 0, none⟩) kS vL (l ++ [x]) (.returned (.tuple #[])) _) := Lib.hid (HCm.out ▸ HF.out)
        have HO8 := Lib.hid (own_aside2 ho6 (p := ⟨b0, t, none⟩) (fun q hq => by cases hq; exact hne0) (.slice (some ⟨gb, 0, none⟩) (lq.length + 1) c6'))
        clear HF HSf HFin HCm HO7 HG7 hS6 hSa hS0 z2 zc zl hor6 hg6 ho6 HD HDa HON HS HBX HRU
        generalize (w6.setCell ⟨b0, t, none⟩ (.slice (some ⟨gb, 0, none⟩) (lq.length + 1) c6')) = W8 at *
        have z0 := HO8.out.frozenAt (lq.length * 9)
        have z1 := HO8.out.frozenAt (lq.length * 9 + 1)
        have z2 := HO8.out.frozenAt (lq.length * 9 + 2)
        have z3 := HO8.out.frozenAt (lq.length * 9 + 3)
        have z4 := HO8.out.frozenAt (lq.length * 9 + 4)
        have z5 := HO8.out.frozenAt (lq.length * 9 + 5)
        have z6 := HO8.out.frozenAt (lq.length * 9 + 6)
        have z7 := HO8.out.frozenAt (lq.length * 9 + 7)
        have z8 := HO8.out.frozenAt (lq.length * 9 + 8)
        obtain ⟨q0, q1, q2, q3, q4, q5, q6, q7, q8⟩ := cells_nine HO8.out hlen (by omega)
        have hgl8 : gb < W8.heap.size := own_lt HO8.out gb rfl
        have hlt1 : (lq.length : Int) < (lq.length : Int) + 1 := by omega
        clear HO8
        go_wp2
        first | go_end0 | skip
        exact HF2.out
end Go.Proofs.Ytchogpdfdpbpfaa

/- Layer 16: parts in a row of one's own; rows that are let alone; lists of tables behind the core. No condition. -/
namespace Go.Proofs.Ytchogpdfdpbpfaa
open Go.RowKit
attribute [local go_sem] more_cell more_frozen more_more more_setCell more_of_drew more_of_drewN lt_more le_more past_cell past_cell2 past_frozen past_frozen2 past_setCell past_setCell2 mid_cell mid_frozen mid_setCell
attribute [local go_sem ↓] Go.wp_at_zero Go.wp_at_succ

/-- Parts in a row of one's own. -/
def PartsF (u w : World) (l : List Ex) (e : Ending) (w' : World) : Prop := ∃ A k, e = .returned (.slice A l.length k) ∧ Grew w w' ∧ ExOwn u w' w.heap.size A k l
set_option maxHeartbeats 1000000 in
theorem parts_own (x : Ex) (A : Option Addr) (k : Nat) (hx : x.nodes ≤ 1000000) (u w : World) (hg : Grew u w) (ra : ExsR (PRow u) A x.l) : Calls Try.prog 19 #[exV x A k] w (PartsF u w (partsX x)) := by
  have HC : Hid (∀ W g c base, GathP u w W (fun _ => False) W base g c [] → Calls Try.prog 49 #[exV x A k, .pointer (some ⟨g, 0, none⟩), .pointer (some ⟨c, 0, none⟩)] W (GathPR u w W (fun _ => False) base g c ([] ++ partsX x))) := Lib.hid fun W g c base h1 =>
    partsc_ex _ x (Nat.lt_succ_self _) A k g c base [] u w W W _ (by simpa using hx) h1.keep.low.1 h1.keep.low.2.1 h1.keep.low.2.2.1 h1.keep.low.2.2.2 ra h1
  have HG := Lib.hid hg
  clear ra hx hg
  generalize partsX x = n at *
  unfold exV at *
  go_enter Try.func19, Try.ntmps19
  go_wp2_with fail
  refine (HC.out _ _ _ (w.heap.size + 1 + 1 + 1) ⟨⟨((Grew.refl w).alloc _).alloc _ |>.alloc _, Blok.new _ _ _ _ (by simp), by simp, fun _ h => h.elim, fun _ h => h.elim, fun h => h, by simp⟩, HG.out, ⟨none, 0, (Blok.new _ _ _ _ (by simp)).alloc _, ⟨[], ListR.nil, own_none _ _ _ _⟩, fun _ _ h => h⟩⟩).mono ?_
  rintro e w2 ⟨rfl, hg2⟩
  obtain ⟨A2, k2, hb2, ho2, _⟩ := hg2.out
  rw [List.nil_append] at hb2 ho2
  have HG2 := Lib.hid hg2.keep.grew
  have HX : Hid (ExOwn u w2 w.heap.size A2 k2 n) := Lib.hid (by
    obtain ⟨css, h1, h2⟩ := ho2
    exact ⟨css, h1, own_le h2 (by omega)⟩)
  have c0 := hb2.cell 0
  have hl := hb2.lt
  simp at c0
  clear hg2 hb2 ho2
  go_wp2
  go_ret
  exact ⟨A2, k2, rfl, HG2.out, HX.out⟩
/-- Nothing else is named. -/
def noP : Nat → Prop := fun _ => False
section
variable {u v w w' : World} {base g : Nat} {core : Int} {sc : List (List Ex)} {es : List Ed} {rs wh : List Ex} {A : Option Addr} {k : Nat} {vs : List Value} {vE vR vL vW : Value}
theorem Nst.lts {pr : Nat → Prop} (h : Nst pr u v w base g core sc es rs wh A k vs vE vR vL vW) : ∀ x, x ∈ (.slice A vs.length k) :: vE :: vR :: vW :: vs → ∀ i, x.ownBlock = some i → i < w.heap.size := fun x hx i hi => by
  simp only [List.mem_cons] at hx
  rcases hx with rfl | rfl | rfl | rfl | hx
  · exact own_lt h.outer i hi
  · obtain ⟨_, _, rfl, ho⟩ := h.edges
    exact own_lt ho i hi
  · obtain ⟨_, _, ho⟩ := (h.bins.each 0 _ rs rfl rfl).own
    exact own_lt ho i hi
  · obtain ⟨_, _, ho⟩ := (h.bins.each 1 _ wh rfl rfl).own
    exact own_lt ho i hi
  · obtain ⟨q, hq, rfl⟩ := List.getElem_of_mem hx
    have hs : q < sc.length := by rw [← h.sizes]; exact hq
    obtain ⟨_, _, ho⟩ := (h.bins.each (q + 2) vs[q] sc[q] (by simp) (by simp [hs])).own
    exact own_lt ho i hi
/-- A row that was made behind is let alone. -/
theorem Nst.guard (h : Nst noP u v w base g core sc es rs wh A k vs vE vR vL vW) (hg : Grew w w') {e : TypeId} {size n : Nat} {x : Value} {xs : List Value} (ho : w'.ownsRow w.heap.size e size x n xs) :
    Nst (fun i => x.ownBlock = some i) u w' w' base g core sc es rs wh A k vs vE vR vL vW := by
  have h' := h.more hg
  have hb := own_base ho
  have hs := h.size
  have hl := h.low.2
  exact ⟨h'.blk, h'.outer, h'.bins, h'.edges, h'.grew, h'.size, h'.low, fun _ _ _ => rfl, fun i hi => ⟨by have := hb i hi; omega, own_lt ho i hi, rfl⟩, fun y hy i hi hp => by
    have h1 := h.lts y hy i hi
    have h2 := hb i hp
    omega⟩
theorem Nst.leave {pr : Nat → Prop} {v' : World} {sc' : List (List Ex)} {es' : List Ed} {rs' wh' : List Ex} {A' : Option Addr} {k' : Nat} {vs' : List Value} {vE' vR' vL' vW' : Value} (h : Nst pr u v' w base g core sc es rs wh A k vs vE vR vL vW) (h' : Nst noP u v v' base g core sc' es' rs' wh' A' k' vs' vE' vR' vL' vW') : Nst noP u v w base g core sc es rs wh A k vs vE vR vL vW :=
  ⟨h.blk, h.outer, h.bins, h.edges, h.grew, h.size, h.low, fun i hi hn => (h.kept i hi hn).trans (h'.kept i hi hn), fun _ hp => hp.elim, fun _ _ _ _ hp => hp⟩
theorem own_same {e : TypeId} {size n B : Nat} {x : Value} {xs : List Value} (ho : w.ownsRow B e size x n xs) (hs : ∀ i, x.ownBlock = some i → w'.heap[i]? = w.heap[i]?) : w'.ownsRow B e size x n xs := by
  refine ⟨ho.1, ?_⟩
  rcases ho.2 with q | ⟨q, cap, cur, rfl, hb, hh, r⟩
  · exact Or.inl q
  · exact Or.inr ⟨q, cap, cur, rfl, hb, by rw [hs q rfl]; exact hh, r⟩
end
theorem infoEx : (Try.prog.info? 22).map (fun i => (i.zero, i.size, i.bytes)) = some (some (.slice none 0 0), 1, 24) := by kernel_rfl
/-- The parts of the joins' conditions of the core, up to a place; all conditions of the core. -/
def allP (sr : List Fr) (i : Nat) : List Ex := (((sr.take i).drop 1).map fun f => partsX f.on).flatten
def allX (sr : List Fr) (wh : Ex) (core : Nat) : List Ex := allP sr core ++ partsX wh
def latesX (sr : List Fr) (core n : Nat) : List La := (List.range n).map fun i => lateX (sr.getD (core + i) default) ((core + i : Nat) : Int)
def normX (sr : List Fr) (wh : Ex) : Nm := ⟨coreN sr, nS (coreN sr) (allX sr wh (coreN sr)), nE (coreN sr) (allX sr wh (coreN sr)), nR (coreN sr) (allX sr wh (coreN sr)), latesX sr (coreN sr) (sr.length - coreN sr), nW (coreN sr) (allX sr wh (coreN sr))⟩
theorem allP_one (sr : List Fr) : allP sr 1 = [] := by
  unfold allP
  have : (sr.take 1).drop 1 = [] := List.drop_of_length_le (by simp; omega)
  rw [this]
  rfl
theorem allP_succ (sr : List Fr) {i : Nat} (h1 : 1 ≤ i) (h : i < sr.length) : allP sr (i + 1) = allP sr i ++ partsX sr[i].on := by
  unfold allP
  rw [List.take_succ_eq_append_getElem h, List.drop_append_of_le_length (by rw [List.length_take]; omega), List.map_append, List.flatten_append]
  simp
theorem allP_zero (sr : List Fr) : allP sr 0 = [] := rfl
theorem allP_len (sr : List Fr) (hn : ∀ f ∈ sr, f.on.nodes ≤ 200) (i : Nat) : (allP sr i).length ≤ 200 * sr.length := by
  have : ∀ l : List Fr, (∀ f ∈ l, f.on.nodes ≤ 200) → ((l.map fun f => partsX f.on).flatten).length ≤ 200 * l.length := fun l => by
    induction l with
    | nil => intro _; simp
    | cons f l ih =>
      intro h
      have h1 := ih fun g hg => h g (by simp [hg])
      have h2 := partsX_len f.on
      have h3 := h f (by simp)
      simp only [List.map_cons, List.flatten_cons, List.length_append, List.length_cons]
      omega
  have h := this ((sr.take i).drop 1) fun f hf => hn f (List.mem_of_mem_take (List.mem_of_mem_drop hf))
  have h2 : ((sr.take i).drop 1).length ≤ sr.length := by rw [List.length_drop, List.length_take]; omega
  unfold allP
  omega
theorem allP_nodes (sr : List Fr) (hn : ∀ f ∈ sr, f.on.nodes ≤ 200) (i : Nat) : ∀ y ∈ allP sr i, y.nodes ≤ 200 := by
  intro y hy
  unfold allP at hy
  obtain ⟨l, hl, hyl⟩ := List.mem_flatten.1 hy
  obtain ⟨f, hf, rfl⟩ := List.mem_map.1 hl
  exact Nat.le_trans (partsX_nodes f.on y hyl) (hn f (List.mem_of_mem_take (List.mem_of_mem_drop hf)))
/-- A list of tables behind the core in a row of one's own. -/
def ExT (u w : World) (base : Nat) (v : Value) (l : List Ex) : Prop := ∃ A c css, v = .slice A l.length c ∧ ListR (ExR (PRow u)) 9 l css ∧ TRow base w 27 A css.flatten
def EdT (w : World) (base : Nat) (v : Value) (l : List Ed) : Prop := ∃ A c, v = .slice A l.length c ∧ TRow base w 34 A (edsC l)
def LaU (u w : World) (base : Nat) (x : La) (cs : List Value) : Prop := ∃ vK vS vR, cs = [.int .i64 x.table, .int .i64 x.join, vK, vS, vR] ∧ EdT w base vK x.keys ∧ ExT u w base vS x.scan ∧ ExT u w base vR x.rest
def LaSl (u w : World) (base : Nat) (v : Value) (l : List La) : Prop := ∃ A c css, v = .slice A l.length c ∧ ListR (LaU u w base) 5 l css ∧ w.ownsRow base 72 5 v l.length css.flatten
theorem LaU.map {u w w' : World} {base : Nat} {x : La} {cs : List Value} (h : LaU u w base x cs) (h1 : ∀ A xs, TRow base w 34 A xs → TRow base w' 34 A xs) (h2 : ∀ A xs, TRow base w 27 A xs → TRow base w' 27 A xs) : LaU u w' base x cs := by
  obtain ⟨vK, vS, vR, rfl, ⟨A, c, e1, q1⟩, ⟨B, d, css, e2, r2, q2⟩, ⟨C, f, dss, e3, r3, q3⟩⟩ := h
  exact ⟨vK, vS, vR, rfl, ⟨A, c, e1, h1 _ _ q1⟩, ⟨B, d, css, e2, r2, h2 _ _ q2⟩, ⟨C, f, dss, e3, r3, h2 _ _ q3⟩⟩
theorem LaSl.more {u w w' : World} {base : Nat} {v : Value} {l : List La} (h : LaSl u w base v l) (g : Grew w w') : LaSl u w' base v l := by
  obtain ⟨A, c, css, e, h1, h2⟩ := h
  exact ⟨A, c, css, e, h1.map fun x cs hx => hx.map (fun _ _ q => q.grew g) (fun _ _ q => q.grew g), own_grewE h2 g⟩
theorem LaSl.nil (u w : World) (base : Nat) : LaSl u w base (.slice none 0 0) [] := ⟨none, 0, [], rfl, ListR.nil, own_none _ _ _ _⟩
theorem infoLa : (Try.prog.info? 72).map (fun i => (i.zero, i.size, i.bytes)) = some (some (.agg #[.int .i64 0, .int .i64 0, .slice none 0 0, .slice none 0 0, .slice none 0 0]), 5, 88) := by kernel_rfl
/-- What late hands back, as an element. -/
theorem late_elem {u v w : World} {base : Nat} {x : La} {vK vS vR : Value} (hb : base ≤ v.heap.size) (hK : EdSl w v.heap.size vK x.keys) (hB : Bins u w v.heap.size [vS, vR] [x.scan, x.rest]) : LaU u w base x [.int .i64 x.table, .int .i64 x.join, vK, vS, vR] := by
  obtain ⟨A, c, e1, o1⟩ := hK
  obtain ⟨B, d, e2, css, r2, o2⟩ := hB.each 0 vS x.scan rfl rfl
  obtain ⟨C, f, e3, dss, r3, o3⟩ := hB.each 1 vR x.rest rfl rfl
  subst e1 e2 e3
  exact ⟨_, _, _, rfl, ⟨A, c, rfl, TRow.own (own_le o1 hb)⟩, ⟨B, d, css, rfl, r2, TRow.own (own_le o2 hb)⟩, ⟨C, f, dss, rfl, r3, TRow.own (own_le o3 hb)⟩⟩
/-- What comes back: a query's conditions. -/
def NormF (u : World) (x : Nm) (e : Ending) (w' : World) : Prop := ∃ A k B j C c D d E f, e = .returned (.agg (nmC x A k B j C c D d E f)) ∧ Grew u w' ∧ NmR (PRow w') x A B C D E
end Go.Proofs.Ytchogpdfdpbpfaa

/- Layer 16: the beginning of a query's conditions. No condition. -/
namespace Go.Proofs.Ytchogpdfdpbpfaa
open Go.RowKit
theorem nS_nil (core : Nat) : nS core [] = List.replicate core [] := by
  refine List.ext_getElem (by simp [nS]) fun i h1 h2 => ?_
  simp [nS, nT]
theorem of_start {u v : World} {g core : Nat} (hb : Blok v g 44 #[.int .i64 core, .slice none 0 0, .slice none 0 0, .slice none 0 0, .slice none 0 0, .slice none 0 0]) (hg : Grew u v) (hu : u.heap.size ≤ g) (hc : core ≤ 1000000) :
    Nst noP u v ((v.setCell ⟨g, 1, none⟩ (.slice (some ⟨v.heap.size, 0, none⟩) core core)).alloc (.cells (madeCells #[.slice none 0 0] core) 22)) v.heap.size g core (nS core []) (nE core []) (nR core []) (nW core []) (some ⟨v.heap.size, 0, none⟩) core (List.replicate core (.slice none 0 0)) (.slice none 0 0) (.slice none 0 0) (.slice none 0 0) (.slice none 0 0) := by
  have hl := hb.lt
  have hm : (madeCells #[Value.slice none 0 0] core).toList = List.replicate core (.slice none 0 0) := toList_madeCells_one _ _
  have hsz : (madeCells #[Value.slice none 0 0] core).size = core := by
    have := congrArg List.length hm
    simpa using this
  have ho := own_lit (v.setCell ⟨g, 1, none⟩ (.slice (some ⟨v.heap.size, 0, none⟩) core core)) v.heap.size 22 1 core v.heap.size (madeCells #[.slice none 0 0] core) (by rw [World.size_setCell]) (Nat.le_refl _) (by rw [hsz, Nat.mul_one]) hc
  rw [hm] at ho
  refine ⟨?_, ?_, ?_, ?_, ((hg.setCell hu _).alloc _), by rw [World.size_alloc, World.size_setCell]; omega, ⟨hu, hl⟩, fun i hi hn => ?_, fun _ hp => hp.elim, fun _ _ _ _ hp => hp⟩
  · rw [List.length_replicate]
    exact (hb.set 1 _).alloc _
  · rw [List.length_replicate]
    exact ho
  · rw [nS_nil]
    exact Bins.nil u _ v.heap.size (core + 2)
  · exact EdSl.nil _ _
  · rw [heap_grew ((Grew.refl _).alloc _) (by rw [World.size_setCell]; exact hi), heap_set _ _ hn]
theorem trow_set {B g : Nat} {w : World} {e : TypeId} {A : Option Addr} {xs : List Value} (h : TRow B w e A xs) (hg : g < B) (j : Nat) (y : Value) : TRow B (w.setCell ⟨g, j, none⟩ y) e A xs :=
  h.block fun b _ hb _ => heap_set _ _ (by show b ≠ g; omega)
/-- One more table behind the core. -/
theorem LaSl.put {u w w' : World} {base g : Nat} {AL : Option Addr} {cL : Nat} {l : List La} {css : List (List Value)} (hc : ListR (LaU u w base) 5 l css) (ho0 : w.ownsRow base 72 5 (.slice AL l.length cL) l.length css.flatten) {x : La} {cs : List Value} (hx : LaU u w base x cs) (hcs : cs.length = 5) {A' : Option Addr} {c' : Nat}
    (ho : w'.ownsRow base 72 5 (.slice A' (l.length + 1) c') (l.length + 1) (css.flatten ++ cs)) (hgb : w.grownBy w' (Value.slice AL l.length cL).ownBlock) (hg : g < base) (y : Value) : LaSl u (w'.setCell ⟨g, 4, none⟩ y) base (.slice A' (l.length + 1) c') (l ++ [x]) := by
  have e : (l ++ [x]).length = l.length + 1 := by simp
  have hm : ∀ x cs, LaU u w base x cs → LaU u (w'.setCell ⟨g, 4, none⟩ y) base x cs := fun x cs h =>
    h.map (fun _ _ q => trow_set (q.grown ho0 (by decide) hgb) hg _ _) (fun _ _ q => trow_set (q.grown ho0 (by decide) hgb) hg _ _)
  refine ⟨A', c', css ++ [cs], by rw [e], (hc.map fun x cs h => hm x cs h).snoc (hm _ _ hx) hcs, ?_⟩
  rw [e, List.flatten_append]
  have := ownsRow_setCell_below ho (a := ⟨g, 4, none⟩) hg y
  simpa using this
theorem ExT.exs {u w : World} {base : Nat} {v : Value} {l : List Ex} (h : ExT u w base v l) (g : Grew u w) : ∃ A c, v = .slice A l.length c ∧ ExsR (PRow w) A l := by
  obtain ⟨A, c, css, e, h1, h2⟩ := h
  exact ⟨A, c, e, css, h1.map fun x cs hx => hx.grew g, h2.plain⟩
theorem ExSl.exs {u w : World} {base : Nat} {v : Value} {l : List Ex} (h : ExSl u w base v l) (g : Grew u w) : ∃ A c, v = .slice A l.length c ∧ ExsR (PRow w) A l := by
  obtain ⟨A, c, e, css, h1, h2⟩ := h
  obtain ⟨A', c', e', h3⟩ := own_row h2
  injection e' with e' _ _
  subst e'
  exact ⟨A, c, e, css, h1.map fun x cs hx => hx.grew g, h3⟩
theorem flat_one (vs : List Value) : (vs.map fun v => [v]).flatten = vs := by
  induction vs with
  | nil => rfl
  | cons v vs ih => simp [ih]
/-- What comes back, out of what was put together. -/
theorem norm_done {pr : Nat → Prop} {u v w w' : World} {base g : Nat} {core : Int} {sc : List (List Ex)} {es : List Ed} {rs wh : List Ex} {A : Option Addr} {k : Nat} {vs : List Value} {vE vR vL vW : Value} {lts : List La}
    (h : Nst pr u v w base g core sc es rs wh A k vs vE vR vL vW) (hl : LaSl u w base vL lts) (hw : ∀ i, base ≤ i → w'.heap[i]? = w.heap[i]?) (hg : Grew u w') :
    NormF u ⟨core, sc, es, rs, lts, wh⟩ (.returned (.agg #[.int .i64 core, .slice A vs.length k, vE, vR, vL, vW])) w' := by
  have hk : ∀ {e size n v xs}, w.ownsRow base e size v n xs → w'.ownsRow base e size v n xs := fun {e size n v xs} ho => own_same ho fun i hi => hw i (own_base ho i hi)
  have hex : ∀ {v l}, ExSl u w base v l → ∃ A c, v = .slice A l.length c ∧ ExsR (PRow w') A l := fun {v l} hx => (hx.keep fun xs ho => hk ho).exs hg
  obtain ⟨B, j, rfl, hB⟩ := (show EdSl w' base vE es by obtain ⟨A, c, e, ho⟩ := h.edges; exact ⟨A, c, e, hk ho⟩).eds
  obtain ⟨C, c, rfl, hC⟩ := hex (h.bins.each 0 vR rs rfl rfl)
  obtain ⟨E, f, rfl, hE⟩ := hex (h.bins.each 1 vW wh rfl rfl)
  obtain ⟨D, d, css, rfl, h1, h2⟩ := hl
  have hsz := h.sizes
  refine ⟨A, k, B, j, C, c, D, d, E, f, by unfold nmC; rw [hsz], hg, ?_, hB, hC, ?_, hE⟩
  · refine ⟨vs.map fun v => [v], ⟨by simp [hsz], fun i x cs hx hcs => ?_⟩, ?_⟩
    · rw [List.getElem?_map] at hcs
      cases hv : vs[i]? with
      | none => rw [hv] at hcs; cases hcs
      | some y =>
        rw [hv] at hcs
        injection hcs with hcs
        subst hcs
        obtain ⟨A', c', e, hx'⟩ := hex (h.bins.each (i + 2) y x (by simpa using hv) (by simpa using hx))
        subst e
        exact ⟨⟨A', c', rfl, hx'⟩, rfl⟩
    · rw [flat_one]
      obtain ⟨A', c', e', h3⟩ := own_row (hk h.outer)
      injection e' with e' _ _
      subst e'
      exact h3
  · have ht : ∀ {e A xs}, TRow base w e A xs → TRow base w' e A xs := fun {e A xs} q => q.block fun b _ hb _ => hw b hb
    refine ⟨css, h1.map fun x cs hx => ?_, ?_⟩
    · obtain ⟨vK, vS, vR, rfl, ⟨a1, c1, rfl, q1⟩, hS, hR⟩ := hx.map (fun _ _ q => ht q) (fun _ _ q => ht q)
      obtain ⟨a2, c2, rfl, q2⟩ := hS.exs hg
      obtain ⟨a3, c3, rfl, q3⟩ := hR.exs hg
      exact ⟨a1, c1, a2, c2, a3, c3, rfl, ⟨_, listR_eds _, q1.plain⟩, q2, q3⟩
    · obtain ⟨A', c', e', h3⟩ := own_row (hk h2)
      injection e' with e' _ _
      subst e'
      exact h3
end Go.Proofs.Ytchogpdfdpbpfaa

/- Layer 16: a query's conditions, by the program. Condition: a query that lies in memory that is there, of no more than a thousand sources of no more than two hundred parts each. -/
namespace Go.Proofs.Ytchogpdfdpbpfaa
open Go.RowKit
attribute [local go_sem] more_cell more_frozen more_more more_setCell more_of_drew more_of_drewN lt_more le_more past_cell past_cell2 past_frozen past_frozen2 past_setCell past_setCell2 mid_cell mid_frozen mid_setCell
attribute [local go_sem ↓] Go.wp_at_zero Go.wp_at_succ

def OfAt (u v : World) (base g core : Nat) (sr : List Fr) (A : Option Addr) (k : Nat) (i : Value) (wr : World) : Prop :=
  ∃ (q : Nat) (vs : List Value) (vE vR vW : Value), 1 ≤ q ∧ (q ≤ core ∨ q = 1) ∧ i = .int .i64 q ∧ Nst noP u v wr base g core (nS core (allP sr q)) (nE core (allP sr q)) (nR core (allP sr q)) (nW core (allP sr q)) A k vs vE vR (.slice none 0 0) vW
def InAt (pr : Nat → Prop) (u v : World) (base g core : Nat) (l0 m : List Ex) (A : Option Addr) (k : Nat) (i : Value) (wr : World) : Prop :=
  ∃ (q : Nat) (vs : List Value) (vE vR vW : Value), q ≤ m.length ∧ i = .int .i64 q ∧ Nst pr u v wr base g core (nS core (l0 ++ m.take q)) (nE core (l0 ++ m.take q)) (nR core (l0 ++ m.take q)) (nW core (l0 ++ m.take q)) A k vs vE vR (.slice none 0 0) vW
theorem qy_in {w : World} {g : Nat} {it : List Ex} {sr : List Fr} {wh : Ex} {gr : List Ex} {A : Option Addr} {k : Nat} {B : Option Addr} {j : Nat} {C : Option Addr} {c : Nat} {D : Option Addr} {d : Nat} (h : Blok w g 29 (qyC it sr wh gr A k B j C c D d)) :
    g < w.heap.size ∧ w.cell? ⟨g, 0, none⟩ = some (.slice A it.length k) ∧ w.cell? ⟨g, 1, none⟩ = some (.slice B sr.length j) ∧ w.cell? ⟨g, 2, none⟩ = some (.int .i64 wh.op) ∧ w.cell? ⟨g, 3, none⟩ = some (.string wh.tab) ∧ w.cell? ⟨g, 4, none⟩ = some (.string wh.name) ∧ w.cell? ⟨g, 5, none⟩ = some (.int .i64 wh.t) ∧ w.cell? ⟨g, 6, none⟩ = some (.int .i64 wh.c) ∧ w.cell? ⟨g, 7, none⟩ = some (.int .i64 wh.vk) ∧ w.cell? ⟨g, 8, none⟩ = some (.int .i64 wh.vi) ∧ w.cell? ⟨g, 9, none⟩ = some (.string wh.vs) ∧ w.cell? ⟨g, 10, none⟩ = some (.slice C wh.l.length c) ∧ w.cell? ⟨g, 11, none⟩ = some (.slice D gr.length d) :=
  ⟨h.lt, h.cell 0, h.cell 1, h.cell 2, h.cell 3, h.cell 4, h.cell 5, h.cell 6, h.cell 7, h.cell 8, h.cell 9, h.cell 10, h.cell 11⟩
/-- The tables behind the core, one by one. -/
def LtsAt (N : Value → World → Prop) (u : World) (base : Nat) (sr : List Fr) (core : Nat) (i : Value) (wr : World) : Prop :=
  ∃ (q : Nat) (vL : Value), core + q ≤ sr.length ∧ i = .int .i64 ((core + q : Nat) : Int) ∧ N vL wr ∧ LaSl u wr base vL (latesX sr core q)
theorem latesX_succ {sr : List Fr} {core q : Nat} (h : core + q < sr.length) : latesX sr core (q + 1) = latesX sr core q ++ [lateX sr[core + q] ((core + q : Nat) : Int)] := by
  unfold latesX
  rw [List.range_succ, List.map_append]
  simp [List.getD, h]
theorem latesX_len (sr : List Fr) (core q : Nat) : (latesX sr core q).length = q := by simp [latesX]
set_option maxHeartbeats 16000000 in
set_option maxRecDepth 100000 in
theorem nof_any (it : List Ex) (sr : List Fr) (wh : Ex) (gr : List Ex) (A : Option Addr) (k : Nat) (B : Option Addr) (j : Nat) (C : Option Addr) (c : Nat) (D : Option Addr) (d : Nat) (w : World)
    (hs : sr.length ≤ 1000) (hn : ∀ f ∈ sr, f.on.nodes ≤ 200) (hw : wh.nodes ≤ 200) (rB : FrsR (PRow w) B sr) (rC : ExsR (PRow w) C wh.l) :
    Calls Try.prog 14 #[.agg (qyC it sr wh gr A k B j C c D d)] w (NormF w (normX sr wh)) := by
  have HCo : Hid (∀ W, Grew w W → Gives Try.prog 16 #[.agg (qyC it sr wh gr A k B j C c D d)] W (.int .i64 (coreN sr))) := Lib.hid fun W hW => core_any it sr wh gr A k B j C c D d W (by omega) (rB.grew hW)
  have HRB := Lib.hid rB
  have HRC := Lib.hid rC
  have hcs : coreN sr ≤ sr.length := coreN_le sr
  obtain ⟨fin, hfin⟩ : ∃ fin, normX sr wh = fin := ⟨_, rfl⟩
  have HF := Lib.hid hfin
  unfold normX at HF
  rw [hfin]
  clear rB rC hfin
  generalize coreN sr = core at *
  obtain ⟨i0, hi, hz0, hz1, hz2⟩ := info_parts infoEx
  have HJ := Lib.hid hi
  have HJ0 := Lib.hid hz0
  have HJ1 := Lib.hid hz1
  have HJ2 := Lib.hid hz2
  clear hi hz0 hz1 hz2
  unfold qyC at *
  go_enter Try.func14, Try.ntmps14
  go_upto_region 2 with (go_at_call 16; (with_reducible refine (HCo.out _ (((Grew.refl w).alloc _).alloc _)).grows.mono ?_); rintro e w2 ⟨rfl, hg2⟩; have HB1 : Hid (Blok w2 w.heap.size 29 (qyC it sr wh gr A k B j C c D d)) := Lib.hid (((Blok.new _ _ _ _ (by rfl)).alloc _).grew hg2); have HB2 : Hid (Blok w2 (w.heap.size + 1) 44 #[.int .i64 0, .slice none 0 0, .slice none 0 0, .slice none 0 0, .slice none 0 0, .slice none 0 0]) := Lib.hid ((Blok.new _ _ _ _ (by simp)).grew hg2); have HG2 : Hid (Grew w w2) := Lib.hid ((((Grew.refl w).alloc _).alloc _).trans hg2); clear hg2)
  have HGb : Hid (Blok (w2.alloc (.cells #[.int .i64 core, .slice none 0 0, .slice none 0 0, .slice none 0 0, .slice none 0 0, .slice none 0 0] 44)) w2.heap.size 44 #[.int .i64 core, .slice none 0 0, .slice none 0 0, .slice none 0 0, .slice none 0 0, .slice none 0 0]) := Lib.hid (Blok.new _ _ _ _ rfl)
  have HB1' := Lib.hid (HB1.out.alloc (.cells #[.int .i64 core, .slice none 0 0, .slice none 0 0, .slice none 0 0, .slice none 0 0, .slice none 0 0] 44))
  have HB2' := Lib.hid (HB2.out.alloc (.cells #[.int .i64 core, .slice none 0 0, .slice none 0 0, .slice none 0 0, .slice none 0 0, .slice none 0 0] 44))
  have HG2' := Lib.hid (HG2.out.alloc (.cells #[.int .i64 core, .slice none 0 0, .slice none 0 0, .slice none 0 0, .slice none 0 0, .slice none 0 0] 44))
  have hug : w.heap.size ≤ w2.heap.size := HG2.out.size
  have hb1g : w.heap.size < w2.heap.size := HB1.out.lt
  have hb2g : w.heap.size + 1 < w2.heap.size := HB2.out.lt
  clear HB1 HB2 HG2 HCo
  generalize (w2.alloc (.cells #[.int .i64 core, .slice none 0 0, .slice none 0 0, .slice none 0 0, .slice none 0 0, .slice none 0 0] 44)) = W3 at *
  generalize w2.heap.size = g at *
  have hgl : g < W3.heap.size := HGb.out.lt
  have c0 : W3.cell? ⟨g, 0, none⟩ = some (.int .i64 core) := HGb.out.cell 0
  have c1 : W3.cell? ⟨g, 1, none⟩ = some (.slice none 0 0) := HGb.out.cell 1
  have z1 := HGb.out.thaw 1
  go_upto_region 4 with (at_make; refine wpList_make_row _ rfl _ _ 40 rfl 22 i0 (.slice none 0 0) Try.underlying40 HJ.out HJ0.out HJ1.out rfl _ _ core rfl rfl (by rw [HJ2.out]; omega) (by omega) ?_)
  have HN0 := Lib.hid (of_start HGb.out HG2'.out hug (by omega))
  clear HJ HJ0 HJ1 HJ2 c0 c1 z1
  generalize hW4 : ((W3.setCell ⟨g, 1, none⟩ (.slice (some ⟨W3.heap.size, 0, none⟩) core core)).alloc (.cells (madeCells #[.slice none 0 0] core) 22)) = W4 at *
  clear hW4
  generalize hbs : W3.heap.size = base at *
  obtain ⟨AS, kS, vs0, vE0, vR0, vW0, HN0⟩ : ∃ AS kS vs vE vR vW, Hid (Nst noP w W3 W4 base g core (nS core (allP sr 1)) (nE core (allP sr 1)) (nR core (allP sr 1)) (nW core (allP sr 1)) AS kS vs vE vR (.slice none 0 0) vW) := ⟨_, _, _, _, _, _, by rw [allP_one]; exact HN0⟩
  have hlP := allP_len sr hn
  go_upto_region 5 with fail
  go_loopw [5] (fun i wr => OfAt w W3 base g core sr AS kS i wr) (fun i _ => core - (intOf i).toNat)
  case atStart => exact ⟨1, _, _, _, _, Nat.le_refl _, Or.inr rfl, rfl, HN0.out⟩
  case round =>
    obtain ⟨q, vs, vE, vR, vW, hq1, hq2, rfl, hN⟩ := hrel
    have HNq := Lib.hid hN
    clear hN
    have c0 : wr.cell? ⟨g, 0, none⟩ = some (.int .i64 core) := HNq.out.blk.cell 0
    have hgl : g < wr.heap.size := HNq.out.blk.lt
    have hbx : Blok wr w.heap.size 29 (qyC it sr wh gr A k B j C c D d) := (HNq.out.kept _ (by omega) (by omega)).trans HB1'.out
    obtain ⟨xl, x0, x1, x2, x3, x4, x5, x6, x7, x8, x9, x10, x11⟩ := qy_in hbx
    by_cases h : q < core
    · have hqs : q < sr.length := by omega
      obtain ⟨bf, of, PF, kf, rfl, hpf, h9f, _, _, _⟩ := frsR_at HRB.out hqs
      obtain ⟨p0, a0, a1, a2, a3, a4, a5, a6, a7, a8⟩ := h9f.grew HNq.out.grew
      have HP : Hid (∀ W, Grew w W → Calls Try.prog 19 #[exV sr[q].on PF kf] W (PartsF w W (partsX sr[q].on))) := Lib.hid fun W hW => parts_own sr[q].on PF kf (by have := hn _ (List.getElem_mem hqs); omega) w W hW hpf
      have hal := allP_succ sr hq1 hqs
      have hlq := hlP q
      have hmn : ∀ y ∈ partsX sr[q].on, y.nodes ≤ 200 := fun y hy => Nat.le_trans (partsX_nodes _ y hy) (hn _ (List.getElem_mem hqs))
      have hml : (partsX sr[q].on).length ≤ 200 := Nat.le_trans (partsX_len _) (hn _ (List.getElem_mem hqs))
      generalize partsX sr[q].on = m at *
      generalize sr[q].on = y at *
      unfold exV at HP
      go_upto_region 8 with (go_at_call 19; (with_reducible refine (HP.out _ HNq.out.grew).mono ?_); rintro e W5 ⟨A5, k5, rfl, hg5, ho5⟩)
      obtain ⟨css5, hc5, hr5⟩ := ho5
      have HGd := Lib.hid (HNq.out.guard hg5 hr5)
      have HN5 := Lib.hid (HNq.out.more hg5)
      have HR5 := Lib.hid hr5
      have HC5 := Lib.hid hc5
      clear hr5 hc5 hg5
      go_loopw [33] (fun i wr => InAt (fun i => (Value.slice A5 m.length k5).ownBlock = some i) w W5 base g core (allP sr q) m AS kS i wr) (fun i _ => m.length - (intOf i).toNat)
      case atStart => exact ⟨0, _, _, _, _, Nat.zero_le _, rfl, by rw [List.take_zero, List.append_nil]; exact HGd.out⟩
      case round =>
        obtain ⟨n, vs', vE', vR', vW', hn', rfl, hN'⟩ := hrel
        have HM := Lib.hid hN'
        clear hN'
        by_cases h' : n < m.length
        · have hX : ExsU w wr A5 m := by
            have := own_same HR5.out fun i hi => (HM.out.safe i hi).2.2
            exact (show ExOwn w wr _ A5 k5 m from ⟨css5, HC5.out, this⟩).u
          obtain ⟨ba, oa, PA, ka, rfl, hpa, h9⟩ := exsU_nine hX h'
          have hl6 : ((allP sr q) ++ m.take n).length ≤ 1000000 := by rw [List.length_append, List.length_take]; omega
          have HPut : Hid (∀ W, Nst _ w W5 W base g core _ _ _ _ AS kS vs' vE' vR' _ vW' → Calls Try.prog 44 #[.pointer (some ⟨g, 0, none⟩), exV m[n] PA ka, .func (.func 43) #[] #[.pointer (some ⟨g, 0, none⟩)]] W (PutF (fun i => (Value.slice (some ⟨ba, oa, none⟩) m.length k5).ownBlock = some i) w W5 base g core AS kS (.slice none 0 0) (((allP sr q) ++ m.take n) ++ [m[n]]))) := Lib.hid fun W hW =>
            put_any m[n] PA ka _ w W5 W base g core ((allP sr q) ++ m.take n) AS kS vs' vE' vR' (.slice none 0 0) vW' (by have := hmn _ (List.getElem_mem h'); omega) hl6 hpa hW
          have HT : Hid (((allP sr q) ++ m.take n) ++ [m[n]] = (allP sr q) ++ m.take (n + 1)) := Lib.hid (by rw [List.take_succ_eq_append_getElem h', List.append_assoc])
          rw [HT.out] at HPut
          obtain ⟨p0, a0, a1, a2, a3, a4, a5, a6, a7, a8⟩ := h9
          clear hX hpa HT hl6
          generalize m[n] = y at *
          unfold exV at HPut
          go_upto_region 10 with fail
          have HMa := Lib.hid (HM.out.more ((Grew.refl wr).alloc (.cells #[.int .i64 y.op, .string y.tab, .string y.name, .int .i64 y.t, .int .i64 y.c, .int .i64 y.vk, .int .i64 y.vi, .string y.vs, .slice PA y.l.length ka] 27)))
          have HBa : Hid (Blok (wr.alloc (.cells #[.int .i64 y.op, .string y.tab, .string y.name, .int .i64 y.t, .int .i64 y.c, .int .i64 y.vk, .int .i64 y.vi, .string y.vs, .slice PA y.l.length ka] 27)) wr.heap.size 27 #[.int .i64 y.op, .string y.tab, .string y.name, .int .i64 y.t, .int .i64 y.c, .int .i64 y.vk, .int .i64 y.vi, .string y.vs, .slice PA y.l.length ka]) := Lib.hid (Blok.new _ _ _ _ rfl)
          clear HM a0 a1 a2 a3 a4 a5 a6 a7 a8 p0
          generalize (wr.alloc (.cells #[.int .i64 y.op, .string y.tab, .string y.name, .int .i64 y.t, .int .i64 y.c, .int .i64 y.vk, .int .i64 y.vi, .string y.vs, .slice PA y.l.length ka] 27)) = Wa at *
          generalize wr.heap.size = ba7 at *
          obtain ⟨q0, s0, s1, s2, s3, s4, s5, s6, s7, s8⟩ := blok9c HBa.out
          go_wp2_with (go_at_call 44; (with_reducible refine (HPut.out _ HMa.out).mono ?_); rintro e W7 ⟨rfl, vs7, vE7, vR7, vW7, hN7⟩; have HN7 := Lib.hid hN7; clear hN7)
          exact ⟨⟨n + 1, vs7, vE7, vR7, vW7, by omega, by go_num, HN7.out⟩, by simp only [intOf]; omega⟩
        · obtain rfl : n = m.length := by omega
          rw [List.take_length] at HM
          have HNe := Lib.hid (HM.out.leave HN5.out)
          clear HM HN5 HGd
          rw [← hal] at HNe
          go_wp2
          exact ⟨⟨q + 1, _, _, _, _, by omega, by omega, by go_num, HNe.out⟩, by simp only [intOf]; omega⟩
    · have hqc : allP sr q = allP sr core := by
        rcases hq2 with hq2 | hq2
        · rw [show q = core by omega]
        · subst hq2
          have : core = 0 ∨ core = 1 := by omega
          rcases this with e | e
          · rw [e, allP_one]; rfl
          · rw [e]
      rw [hqc] at HNq
      have HP : Hid (∀ W, Grew w W → Calls Try.prog 19 #[exV wh C c] W (PartsF w W (partsX wh))) := Lib.hid fun W hW => parts_own wh C c (by omega) w W hW HRC.out
      have hax : allX sr wh core = allP sr core ++ partsX wh := rfl
      have hlq := hlP core
      have hmn : ∀ y ∈ partsX wh, y.nodes ≤ 200 := fun y hy => Nat.le_trans (partsX_nodes _ y hy) hw
      have hml : (partsX wh).length ≤ 200 := Nat.le_trans (partsX_len _) hw
      generalize partsX wh = m at *
      unfold exV at HP
      go_upto_region 13 with (go_at_call 19; (with_reducible refine (HP.out _ HNq.out.grew).mono ?_); rintro e W5 ⟨A5, k5, rfl, hg5, ho5⟩)
      obtain ⟨css5, hc5, hr5⟩ := ho5
      have HGd := Lib.hid (HNq.out.guard hg5 hr5)
      have HN5 := Lib.hid (HNq.out.more hg5)
      have HR5 := Lib.hid hr5
      have HC5 := Lib.hid hc5
      clear hr5 hc5 hg5
      go_loopw [45] (fun i wr => InAt (fun i => (Value.slice A5 m.length k5).ownBlock = some i) w W5 base g core (allP sr core) m AS kS i wr) (fun i _ => m.length - (intOf i).toNat)
      case atStart => exact ⟨0, _, _, _, _, Nat.zero_le _, rfl, by rw [List.take_zero, List.append_nil]; exact HGd.out⟩
      case round =>
        obtain ⟨n, vs', vE', vR', vW', hn', rfl, hN'⟩ := hrel
        have HM := Lib.hid hN'
        clear hN'
        by_cases h' : n < m.length
        · have hX : ExsU w wr A5 m := by
            have := own_same HR5.out fun i hi => (HM.out.safe i hi).2.2
            exact (show ExOwn w wr _ A5 k5 m from ⟨css5, HC5.out, this⟩).u
          obtain ⟨ba, oa, PA, ka, rfl, hpa, h9⟩ := exsU_nine hX h'
          have hl6 : ((allP sr core) ++ m.take n).length ≤ 1000000 := by rw [List.length_append, List.length_take]; omega
          have HPut : Hid (∀ W, Nst _ w W5 W base g core _ _ _ _ AS kS vs' vE' vR' _ vW' → Calls Try.prog 44 #[.pointer (some ⟨g, 0, none⟩), exV m[n] PA ka, .func (.func 43) #[] #[.pointer (some ⟨g, 0, none⟩)]] W (PutF (fun i => (Value.slice (some ⟨ba, oa, none⟩) m.length k5).ownBlock = some i) w W5 base g core AS kS (.slice none 0 0) (((allP sr core) ++ m.take n) ++ [m[n]]))) := Lib.hid fun W hW =>
            put_any m[n] PA ka _ w W5 W base g core ((allP sr core) ++ m.take n) AS kS vs' vE' vR' (.slice none 0 0) vW' (by have := hmn _ (List.getElem_mem h'); omega) hl6 hpa hW
          have HT : Hid (((allP sr core) ++ m.take n) ++ [m[n]] = (allP sr core) ++ m.take (n + 1)) := Lib.hid (by rw [List.take_succ_eq_append_getElem h', List.append_assoc])
          rw [HT.out] at HPut
          obtain ⟨p0, a0, a1, a2, a3, a4, a5, a6, a7, a8⟩ := h9
          clear hX hpa HT hl6
          generalize m[n] = y at *
          unfold exV at HPut
          go_upto_region 15 with fail
          have HMa := Lib.hid (HM.out.more ((Grew.refl wr).alloc (.cells #[.int .i64 y.op, .string y.tab, .string y.name, .int .i64 y.t, .int .i64 y.c, .int .i64 y.vk, .int .i64 y.vi, .string y.vs, .slice PA y.l.length ka] 27)))
          have HBa : Hid (Blok (wr.alloc (.cells #[.int .i64 y.op, .string y.tab, .string y.name, .int .i64 y.t, .int .i64 y.c, .int .i64 y.vk, .int .i64 y.vi, .string y.vs, .slice PA y.l.length ka] 27)) wr.heap.size 27 #[.int .i64 y.op, .string y.tab, .string y.name, .int .i64 y.t, .int .i64 y.c, .int .i64 y.vk, .int .i64 y.vi, .string y.vs, .slice PA y.l.length ka]) := Lib.hid (Blok.new _ _ _ _ rfl)
          clear HM a0 a1 a2 a3 a4 a5 a6 a7 a8 p0
          generalize (wr.alloc (.cells #[.int .i64 y.op, .string y.tab, .string y.name, .int .i64 y.t, .int .i64 y.c, .int .i64 y.vk, .int .i64 y.vi, .string y.vs, .slice PA y.l.length ka] 27)) = Wa at *
          generalize wr.heap.size = ba7 at *
          obtain ⟨q0, s0, s1, s2, s3, s4, s5, s6, s7, s8⟩ := blok9c HBa.out
          go_wp2_with (go_at_call 44; (with_reducible refine (HPut.out _ HMa.out).mono ?_); rintro e W7 ⟨rfl, vs7, vE7, vR7, vW7, hN7⟩; have HN7 := Lib.hid hN7; clear hN7)
          exact ⟨⟨n + 1, vs7, vE7, vR7, vW7, by omega, by go_num, HN7.out⟩, by simp only [intOf]; omega⟩
        · obtain rfl : n = m.length := by omega
          rw [List.take_length] at HM
          have HNe := Lib.hid (HM.out.leave HN5.out)
          clear HM HN5 HGd
          rw [← hax] at HNe
          clear hax
          generalize allX sr wh core = ll at *
          have c0 : wr.cell? ⟨g, 0, none⟩ = some (.int .i64 core) := HNe.out.blk.cell 0
          have hgl : g < wr.heap.size := HNe.out.blk.lt
          go_upto_region 18 with fail
          go_loopw [10] (fun i wr => LtsAt (fun vL W => Nst noP w W3 W base g core (nS core ll) (nE core ll) (nR core ll) (nW core ll) AS kS vs' vE' vR' vL vW') w base sr core i wr) (fun i _ => sr.length - (intOf i).toNat)
          case atStart => exact ⟨0, _, by omega, rfl, HNe.out, LaSl.nil _ _ _⟩
          case round =>
            obtain ⟨q2, vL, hq2', rfl, hN2, hL2⟩ := hrel
            have HN2 := Lib.hid hN2
            have HL2 := Lib.hid hL2
            clear hN2 hL2 HNe c0 hgl
            have hbx : Blok wr w.heap.size 29 (qyC it sr wh gr A k B j C c D d) := (HN2.out.kept _ (by omega) (by omega)).trans HB1'.out
            obtain ⟨xl, x0, x1, x2, x3, x4, x5, x6, x7, x8, x9, x10, x11⟩ := qy_in hbx
            by_cases h2 : core + q2 < sr.length
            · have HLs0 : Hid (∀ t (h : t < sr.length), core + q2 = t → latesX sr core (q2 + 1) = latesX sr core q2 ++ [lateX sr[t] (t : Int)]) := Lib.hid (by rintro _ h rfl; exact latesX_succ h)
              have hll := latesX_len sr core q2
              obtain ⟨t, ht⟩ : ∃ t, core + q2 = t := ⟨_, rfl⟩
              have h2t : t < sr.length := by omega
              have HLs := Lib.hid (HLs0.out t h2t ht)
              clear HLs0
              simp only [ht]
              obtain ⟨bf, of, PF, kf, rfl, hpf, hbf, hcf⟩ := frsR_all HRB.out h2t
              have ht2 : (t : Int) < (sr.length : Int) := by omega
              go_upto_region 20 with fail
              have HLt : Hid (∀ W, Grew w W → Calls Try.prog 45 #[frV sr[t] PF kf, .int .i64 (t : Int)] W (LateF w W (lateX sr[t] (t : Int)))) := Lib.hid fun W hW => late_any sr[t] _ PF kf (Nat.le_trans (hn _ (List.getElem_mem h2t)) (by decide)) w W hW hpf
              obtain ⟨AL, cL, css, rfl, hLc, hLo⟩ := HL2.out
              have HLc := Lib.hid hLc
              have HLo := Lib.hid hLo
              have f0 : w.cell? ⟨bf, of + t * 12, none⟩ = _ := hcf 0 _ rfl
              have f1 := hcf 1 _ rfl
              have f2 := hcf 2 _ rfl
              have f3 := hcf 3 _ rfl
              have f4 := hcf 4 _ rfl
              have f5 := hcf 5 _ rfl
              have f6 := hcf 6 _ rfl
              have f7 := hcf 7 _ rfl
              have f8 := hcf 8 _ rfl
              have f9 := hcf 9 _ rfl
              have f10 := hcf 10 _ rfl
              have f11 := hcf 11 _ rfl
              clear hcf hpf hLc hLo HL2 x0 x1 x2 x3 x4 x5 x6 x7 x8 x9 x10 x11
              generalize lateX sr[t] (t : Int) = y at *
              generalize latesX sr core q2 = lts at *
              generalize sr[t] = fr at *
              have ht2 : (t : Int) < (sr.length : Int) := by omega
              unfold frV at HLt
              have hq1000 : lts.length ≤ 1000 := by omega
              clear hll
              have hbx2 := hbx
              clear hbx
              have HD := Lib.hid (HN2.out.more (Grew.refl wr).drew)
              have hS0 : Blok wr.drew g 44 #[.int .i64 core, .slice AS vs'.length kS, vE', vR', .slice AL lts.length cL, vW'] ∧ Blok wr.drew w.heap.size 29 (qyC it sr wh gr A k (some ⟨bf, of, none⟩) j C c D d) ∧ Grew w wr.drew := ⟨HD.out.blk, hbx2.grew (Grew.refl wr).drew, HD.out.grew⟩
              refine wp_region_last (fun W => Blok W g 44 #[.int .i64 core, .slice AS vs'.length kS, vE', vR', .slice AL lts.length cL, vW'] ∧ Blok W w.heap.size 29 (qyC it sr wh gr A k (some ⟨bf, of, none⟩) j C c D d) ∧ Grew w W) 12 rfl (by kernel_rfl) ?_
              refine last_take 0 (v := ?_) rfl (by kernel_rfl) (by kernel_rfl) (by kernel_rfl) (by kernel_rfl) (fun _ _ _ h => h) (by rfl) ?_ hS0 ?_
              rotate_left
              · (intro W hW; go_simp; with_reducible rfl)
              refine last_norm (a' := ?_) ?_ ?_
              rotate_left
              · (go_simp; with_reducible rfl)
              refine last_take 1 (v := ?_) rfl (by kernel_rfl) (by kernel_rfl) (by kernel_rfl) (by kernel_rfl) (fun _ _ _ h => h) (by rfl) ?_ hS0 ?_
              rotate_left
              · (intro W hW; have q := hW.1.cell 4; have ql := hW.1.lt; simp at q; go_simp; with_reducible rfl)
              refine last_norm (a' := ?_) ?_ ?_
              rotate_left
              · (go_simp; with_reducible rfl)
              refine last_take 2 (v := ?_) rfl (by kernel_rfl) (by kernel_rfl) (by kernel_rfl) (by kernel_rfl) (fun _ _ _ h => h) (by rfl) ?_ hS0 ?_
              rotate_left
              · (intro W hW; go_simp; with_reducible rfl)
              refine last_norm (a' := ?_) ?_ ?_
              rotate_left
              · (go_simp; with_reducible rfl)
              refine last_take 3 (v := ?_) rfl (by kernel_rfl) (by kernel_rfl) (by kernel_rfl) (by kernel_rfl) (fun _ _ _ h => h) (by rfl) ?_ hS0 ?_
              rotate_left
              · (intro W hW; obtain ⟨xl, x0, x1, x2, x3, x4, x5, x6, x7, x8, x9, x10, x11⟩ := qy_in hW.2.1; go_simp; with_reducible rfl)
              refine last_norm (a' := ?_) ?_ ?_
              rotate_left
              · (go_simp; with_reducible rfl)
              refine last_take 4 (v := ?_) rfl (by kernel_rfl) (by kernel_rfl) (by kernel_rfl) (by kernel_rfl) (fun _ _ _ h => h) (by rfl) ?_ hS0 ?_
              rotate_left
              · (intro W hW; go_simp; with_reducible rfl)
              refine last_take 5 (v := ?_) rfl (by kernel_rfl) (by kernel_rfl) (by kernel_rfl) (by kernel_rfl) (fun _ _ _ h => h) (by rfl) ?_ hS0 ?_
              rotate_left
              · (intro W hW; go_simp; with_reducible rfl)
              refine last_norm (a' := ?_) ?_ ?_
              rotate_left
              · (go_simp; with_reducible rfl)
              refine last_take 6 (v := ?_) rfl (by kernel_rfl) (by kernel_rfl) (by kernel_rfl) (by kernel_rfl) (fun _ _ _ h => h) (by rfl) ?_ hS0 ?_
              rotate_left
              · (intro W hW; have e0 := cell_keep hW.2.2 hbf (f0); have e1 := cell_keep hW.2.2 hbf (f1); have e2 := cell_keep hW.2.2 hbf (f2); have e3 := cell_keep hW.2.2 hbf (f3); have e4 := cell_keep hW.2.2 hbf (f4); have e5 := cell_keep hW.2.2 hbf (f5); have e6 := cell_keep hW.2.2 hbf (f6); have e7 := cell_keep hW.2.2 hbf (f7); have e8 := cell_keep hW.2.2 hbf (f8); have e9 := cell_keep hW.2.2 hbf (f9); have e10 := cell_keep hW.2.2 hbf (f10); have e11 := cell_keep hW.2.2 hbf (f11); have el := Nat.lt_of_lt_of_le hbf (Grew.size hW.2.2); go_simp; with_reducible rfl)
              refine last_norm (a' := ?_) ?_ ?_
              rotate_left
              · (go_simp; with_reducible rfl)
              refine last_take 7 (v := ?_) rfl (by kernel_rfl) (by kernel_rfl) (by kernel_rfl) (by kernel_rfl) (fun _ _ _ h => h) (by rfl) ?_ hS0 ?_
              rotate_left
              · (intro W hW; go_simp; with_reducible rfl)
              refine last_norm (a' := ?_) ?_ ?_
              rotate_left
              · (go_simp; with_reducible rfl)
              refine last_call 8 (by kernel_rfl) (by kernel_rfl) rfl (by rfl) (fun K hK => ?_)
              go_simp
              go_wp2_with ((go_at_call 45; (with_reducible refine (HLt.out _ HD.out.grew).mono ?_); rintro e w6 ⟨vK, vS, vR, rfl, hg6, hK6, hB6⟩; have HN6 := Lib.hid (HD.out.more hg6); have hS6 : Blok w6 g 44 #[.int .i64 core, .slice AS vs'.length kS, vE', vR', .slice AL lts.length cL, vW'] ∧ Blok w6 w.heap.size 29 (qyC it sr wh gr A k (some ⟨bf, of, none⟩) j C c D d) ∧ Grew w w6 := ⟨HN6.out.blk, hS0.2.1.grew hg6, HN6.out.grew⟩))
              refine hK.out _ _ hS6 ?_
              clear hK K
              have HE6 := Lib.hid (late_elem (base := base) HD.out.size hK6 hB6)
              obtain ⟨AK, cK, eK, _⟩ := hK6
              obtain ⟨AS2, cS2, eS2, _⟩ := hB6.each 0 vS y.scan rfl rfl
              obtain ⟨AR2, cR2, eR2, _⟩ := hB6.each 1 vR y.rest rfl rfl
              subst eK eS2 eR2
              have HLc6 : Hid (ListR (LaU w w6 base) 5 lts css) := Lib.hid (HLc.out.map fun x cs hx => hx.map (fun _ _ q => (q.grew (Grew.refl wr).drew).grew hg6) (fun _ _ q => (q.grew (Grew.refl wr).drew).grew hg6))
              have HLo6 := Lib.hid (own_grewE (own_grewE HLo.out (Grew.refl wr).drew) hg6)
              refine last_call 9 (by kernel_rfl) (by kernel_rfl) rfl (by rfl) (fun K hK => ?_)
              go_simp
              go_wp2_with fail
              have HNa := Lib.hid (HN6.out.more ((Grew.refl w6).alloc (.cells #[.int .i64 y.table, .int .i64 y.join, .slice AK y.keys.length cK, .slice AS2 y.scan.length cS2, .slice AR2 y.rest.length cR2] 72)))
              have hSa : Blok (w6.alloc (.cells #[.int .i64 y.table, .int .i64 y.join, .slice AK y.keys.length cK, .slice AS2 y.scan.length cS2, .slice AR2 y.rest.length cR2] 72)) g 44 #[.int .i64 core, .slice AS vs'.length kS, vE', vR', .slice AL lts.length cL, vW'] ∧ Blok (w6.alloc (.cells #[.int .i64 y.table, .int .i64 y.join, .slice AK y.keys.length cK, .slice AS2 y.scan.length cS2, .slice AR2 y.rest.length cR2] 72)) w.heap.size 29 (qyC it sr wh gr A k (some ⟨bf, of, none⟩) j C c D d) ∧ Grew w (w6.alloc (.cells #[.int .i64 y.table, .int .i64 y.join, .slice AK y.keys.length cK, .slice AS2 y.scan.length cS2, .slice AR2 y.rest.length cR2] 72)) := ⟨HNa.out.blk, hS6.2.1.alloc _, HNa.out.grew⟩
              have HLca : Hid (ListR (LaU w (w6.alloc (.cells #[.int .i64 y.table, .int .i64 y.join, .slice AK y.keys.length cK, .slice AS2 y.scan.length cS2, .slice AR2 y.rest.length cR2] 72)) base) 5 lts css) := Lib.hid (HLc6.out.map fun x cs hx => hx.map (fun _ _ q => q.grew ((Grew.refl w6).alloc _)) (fun _ _ q => q.grew ((Grew.refl w6).alloc _)))
              have HEa := Lib.hid (HE6.out.map (w' := w6.alloc (.cells #[.int .i64 y.table, .int .i64 y.join, .slice AK y.keys.length cK, .slice AS2 y.scan.length cS2, .slice AR2 y.rest.length cR2] 72)) (fun _ _ q => q.grew ((Grew.refl w6).alloc _)) (fun _ _ q => q.grew ((Grew.refl w6).alloc _)))
              have HLoa := Lib.hid (own_alloc HLo6.out (.cells #[.int .i64 y.table, .int .i64 y.join, .slice AK y.keys.length cK, .slice AS2 y.scan.length cS2, .slice AR2 y.rest.length cR2] 72))
              refine hK.out _ _ hSa ?_
              clear hK K
              refine last_call 10 (by kernel_rfl) (by kernel_rfl) rfl (by rfl) (fun K hK => ?_)
              refine wp_appC (.tmp 63) (.tmp 71) 42 72 5 rfl base (.agg #[.int .i64 0, .int .i64 0, .slice none 0 0, .slice none 0 0, .slice none 0 0]) 88 Try.underlying42 infoLa rfl (by decide) (by decide) _ lts.length _ rfl HLoa.out _ 1 1 [.int .i64 y.table, .int .i64 y.join, .slice AK y.keys.length cK, .slice AS2 y.scan.length cS2, .slice AR2 y.rest.length cR2] rfl rfl (row_new w6 _ _ #[.int .i64 y.table, .int .i64 y.join, .slice AK y.keys.length cK, .slice AS2 y.scan.length cS2, .slice AR2 y.rest.length cR2] rfl) (by simp [Value.oneCell']) (by omega) HNa.out.size ?_
              intro A8 c8 w8 ho8 hg8 hor8
              have hbb := own_base HLoa.out
              have hS8 : Blok w8 g 44 #[.int .i64 core, .slice AS vs'.length kS, vE', vR', .slice AL lts.length cL, vW'] ∧ Blok w8 w.heap.size 29 (qyC it sr wh gr A k (some ⟨bf, of, none⟩) j C c D d) ∧ Grew w w8 := ⟨hSa.1.grown hg8 (fun e => by have := hbb g e; have := HNa.out.low; omega), hSa.2.1.grown hg8 (fun e => by have := hbb _ e; have := HNa.out.low; omega), hSa.2.2.grown hg8 (fun b hb' => by have := hbb b hb'; have := HNa.out.low; omega)⟩
              have HNf := Lib.hid (HNa.out.putL HLoa.out hg8 (fun _ _ h => h) (.slice A8 (lts.length + 1) c8))
              have HLf := Lib.hid (LaSl.put HLca.out HLoa.out HEa.out rfl ho8 hg8 HNa.out.low.2 (.slice A8 (lts.length + 1) c8))
              refine hK.out _ _ hS8 ?_
              clear hK K
              refine last_take 11 (v := ?_) rfl (by kernel_rfl) (by kernel_rfl) (by kernel_rfl) (by kernel_rfl) (fun _ _ _ h => h) (by rfl) ?_ hS8 ?_
              rotate_left
              · (intro W hW; go_simp; with_reducible rfl)
              refine last_norm (a' := ?_) ?_ ?_
              rotate_left
              · (go_simp; with_reducible rfl)
              have z2 := hS8.1.thaw 4
              have zc := hS8.1.cell 4
              have zl := hS8.1.lt
              simp at zc
              refine last_last (by kernel_rfl) (by kernel_rfl) rfl (by rfl) (fun K hK => ?_)
              go_simp
              go_wp2_with fail
              refine hK.out _ _ ?_
              clear hK K hS8 hSa hS6 hS0 ho8 hg8 hor8 z2 zc zl hg6 hB6
              go_wp2
              exact ⟨⟨q2 + 1, _, by omega, by go_num, HNf.out, by rw [HLs.out]; exact HLf.out⟩, by simp only [intOf]; omega⟩
            · have hqe : q2 = sr.length - core := by omega
              subst hqe
              have hb2 : Blok wr (w.heap.size + 1) 44 #[.int .i64 0, .slice none 0 0, .slice none 0 0, .slice none 0 0, .slice none 0 0, .slice none 0 0] := (HN2.out.kept _ (by omega) (by omega)).trans HB2'.out
              have hgb := HN2.out.blk
              have hu2 : w.heap.size ≤ w.heap.size + 1 := by omega
              have h2b : w.heap.size + 1 < base := by omega
              generalize w.heap.size + 1 = b2 at *
              obtain ⟨AE, cE, rfl, _⟩ := HN2.out.edges
              obtain ⟨AR, cR, rfl, _⟩ := HN2.out.bins.each 0 vR' _ rfl rfl
              obtain ⟨AW, cW, rfl, _⟩ := HN2.out.bins.each 1 vW' _ rfl rfl
              obtain ⟨AL, cL, _, rfl, _, _⟩ := HL2.out
              have gl : g < wr.heap.size := hgb.lt
              have g0 := hgb.cell 0
              have g1 := hgb.cell 1
              have g2 := hgb.cell 2
              have g3 := hgb.cell 3
              have g4 := hgb.cell 4
              have g5 := hgb.cell 5
              have bl : b2 < wr.heap.size := hb2.lt
              have z0 := hb2.thaw 0
              have z1 := hb2.thaw 1
              have z2 := hb2.thaw 2
              have z3 := hb2.thaw 3
              have z4 := hb2.thaw 4
              have z5 := hb2.thaw 5
              have y0 := hb2.cell 0
              have y1 := hb2.cell 1
              have y2 := hb2.cell 2
              have y3 := hb2.cell 3
              have y4 := hb2.cell 4
              have y5 := hb2.cell 5
              simp at g0 g1 g2 g3 g4 g5 y0 y1 y2 y3 y4 y5
              have HBF := Lib.hid ((((((hb2.set 0 (.int .i64 core)).set 1 (.slice AS vs'.length kS)).set 2 (.slice AE (nE core ll).length cE)).set 3 (.slice AR (nR core ll).length cR)).set 4 (.slice AL (latesX sr core (sr.length - core)).length cL)).set 5 (.slice AW (nW core ll).length cW))
              have HE : Hid (NormF w fin (.returned (.agg #[.int .i64 core, .slice AS vs'.length kS, .slice AE (nE core ll).length cE, .slice AR (nR core ll).length cR, .slice AL (latesX sr core (sr.length - core)).length cL, .slice AW (nW core ll).length cW])) ((((((wr.setCell ⟨b2, 0, none⟩ (.int .i64 core)).setCell ⟨b2, 1, none⟩ (.slice AS vs'.length kS)).setCell ⟨b2, 2, none⟩ (.slice AE (nE core ll).length cE)).setCell ⟨b2, 3, none⟩ (.slice AR (nR core ll).length cR)).setCell ⟨b2, 4, none⟩ (.slice AL (latesX sr core (sr.length - core)).length cL)).setCell ⟨b2, 5, none⟩ (.slice AW (nW core ll).length cW))) := Lib.hid (by
                rw [← HF.out]
                refine norm_done HN2.out HL2.out (fun i hi => ?_) ((((((HN2.out.grew.setCell hu2 _).setCell hu2 _).setCell hu2 _).setCell hu2 _).setCell hu2 _).setCell hu2 _)
                have hn' : i ≠ b2 := by omega
                rw [heap_set _ _ hn', heap_set _ _ hn', heap_set _ _ hn', heap_set _ _ hn', heap_set _ _ hn', heap_set _ _ hn'])
              clear HN2 HL2 HB2' HF hgb hb2
              generalize nE (core : Int) ll = le at *
              generalize nR (core : Int) ll = lr at *
              generalize nW (core : Int) ll = lw at *
              generalize latesX sr core (sr.length - core) = lla at *
              go_wp2
              have q0 := HBF.out.cell 0
              have q1 := HBF.out.cell 1
              have q2 := HBF.out.cell 2
              have q3 := HBF.out.cell 3
              have q4 := HBF.out.cell 4
              have q5 := HBF.out.cell 5
              simp at q0 q1 q2 q3 q4 q5
              refine bodyPost_ret (v := .agg #[.int .i64 core, .slice AS vs'.length kS, .slice AE le.length cE, .slice AR lr.length cR, .slice AL lla.length cL, .slice AW lw.length cW]) ?_ ?_ ?_
              · simp [results, Try.results14, go_sem, q0, q1, q2, q3, q4, q5]
              · rfl
              · exact HE.out
end Go.Proofs.Ytchogpdfdpbpfaa

/- Layer 16: the page's example. No condition. -/
namespace Go.Proofs.Ytchogpdfdpbpfaa
open Go.RowKit
attribute [local go_sem] more_cell more_frozen more_more more_setCell more_of_drew more_of_drewN lt_more le_more past_cell past_cell2 past_frozen past_frozen2 past_setCell past_setCell2 mid_cell mid_frozen mid_setCell
attribute [local go_sem ↓] Go.wp_at_zero Go.wp_at_succ

def c16 (t : Int) : Ex := .mk 15 ⟨#[]⟩ ⟨#[]⟩ t 0 0 0 ⟨#[]⟩ []
def e16 : Ex := .mk 1 ⟨#[]⟩ ⟨#[]⟩ 0 0 0 0 ⟨#[]⟩ [c16 0, c16 1]
def z16 : Ex := .mk 0 ⟨#[]⟩ ⟨#[]⟩ 0 0 0 0 ⟨#[]⟩ []
def w16 : Ex := .mk 13 ⟨#[]⟩ ⟨#[]⟩ 0 0 0 0 ⟨#[]⟩ [c16 1]
def s16 : List Fr := [⟨0, ⟨#[97]⟩, ⟨#[]⟩, z16⟩, ⟨1, ⟨#[98]⟩, ⟨#[]⟩, e16⟩]
theorem use_e16 : useX e16 = [0, 1] := by
  unfold useX
  have : e16.cols.map Ex.t = [0, 1] := by
    rw [cols_out (by decide)]
    simp [e16, Ex.l, colsE, c16, Ex.cols, Ex.t]
  rw [this]
  exact setI_self (by unfold Rising; decide)
theorem use_w16 : useX w16 = [1] := by
  unfold useX
  have : w16.cols.map Ex.t = [1] := by
    rw [cols_out (by decide)]
    simp [w16, Ex.l, colsE, c16, Ex.cols, Ex.t]
  rw [this]
  exact setI_self (by unfold Rising; decide)
theorem wh_e16 : whereI e16 2 = 3 := by
  unfold whereI
  rw [use_e16]
  have h2 : (edgeP e16).2 = true := by decide
  rw [h2]
  decide
theorem wh_w16 : whereI w16 2 = 2 := by
  unfold whereI
  rw [use_w16]
  decide
theorem core16 : coreN s16 = 2 := by decide
theorem all16 : allX s16 w16 2 = [e16, w16] := by
  have h1 : partsX e16 = [e16] := partsX_one (by decide) (Or.inl (by decide))
  have h2 : partsX w16 = [w16] := partsX_one (by decide) (Or.inl (by decide))
  unfold allX allP
  simp only [s16, List.take_succ_cons, List.take_zero, List.drop_succ_cons, List.drop_zero, List.map_cons, List.map_nil, List.flatten_cons, List.flatten_nil]
  rw [h1, h2]
  rfl
theorem norm16 : (normX s16 w16).core = 2 ∧ (normX s16 w16).edges.length = 1 ∧ ∃ a b, (normX s16 w16).scan = [a, b] ∧ b.length = 1 := by
  unfold normX
  rw [core16, all16]
  refine ⟨rfl, ?_, _, _, rfl, ?_⟩
  · unfold nE
    simp [wh_e16, wh_w16]
  · unfold nT onlyT
    simp [wh_e16, wh_w16, use_w16]
theorem nodes16 : ∀ f ∈ s16, f.on.nodes ≤ 200 := by
  intro f hf
  simp only [s16, List.mem_cons, List.not_mem_nil, or_false] at hf
  rcases hf with rfl | rfl <;> decide
theorem two16 {R : Rw} {a b : Ex} (ha : ExsR R none a.l) (hb : ExsR R none b.l) : ListR (ExR R) 9 [a, b] [exC a none 0, exC b none 0] := by
  have := listR_append (listR_single ha 0) (listR_single hb 0)
  simpa using this
def fr16c (b1 : Nat) : List Value := (Value.int .i64 0 :: .string ⟨#[97]⟩ :: .string ⟨#[]⟩ :: exC z16 none 0) ++ (Value.int .i64 1 :: .string ⟨#[98]⟩ :: .string ⟨#[]⟩ :: exC e16 (some ⟨b1, 0, none⟩) 2)
theorem fr16 {R : Rw} {b1 : Nat} (hz : ExsR R none z16.l) (he : ExsR R (some ⟨b1, 0, none⟩) e16.l) : ListR (FrR R) 12 s16 [Value.int .i64 0 :: .string ⟨#[97]⟩ :: .string ⟨#[]⟩ :: exC z16 none 0, Value.int .i64 1 :: .string ⟨#[98]⟩ :: .string ⟨#[]⟩ :: exC e16 (some ⟨b1, 0, none⟩) 2] := by
  have h := ((ListR.nil (R := FrR R) (size := 12)).snoc (x := ⟨0, ⟨#[97]⟩, ⟨#[]⟩, z16⟩) ⟨none, 0, rfl, hz⟩ rfl).snoc (x := ⟨1, ⟨#[98]⟩, ⟨#[]⟩, e16⟩) ⟨_, 2, rfl, he⟩ rfl
  exact h
set_option maxHeartbeats 8000000 in
set_option maxRecDepth 100000 in
theorem live16_any (w : World) : Gives Try.prog 8 #[] w (.bool true) := by
  unfold Gives
  go_enter Try.func8, Try.ntmps8
  go_wp2_with fail
  refine (nof_any [] s16 w16 [] none 0 (some ⟨w.heap.size + 1 + 1 + 1, 0, none⟩) 2 (some ⟨w.heap.size + 1 + 1 + 1 + 1, 0, none⟩) 1 none 0 _ (by decide) nodes16 (by decide) ⟨_, fr16 (b1 := w.heap.size + 1) (exs_nil _) ⟨_, two16 (exs_nil _) (exs_nil _), ?r1⟩, ?r2⟩ ⟨_, listR_single (x := c16 1) (exs_nil _) 0, ?r3⟩).mono ?_
  case r1 => exact (row_new (w.alloc _) _ (w.heap.size + 1) _ (by simp)).grew (((Grew.refl _).alloc _).alloc _ |>.alloc _)
  case r2 => exact (row_new (((w.alloc _).alloc _).alloc _) _ (w.heap.size + 1 + 1 + 1) _ (by simp)).grew ((Grew.refl _).alloc _)
  case r3 => exact row_new _ _ _ _ (by simp)
  rintro e w6 ⟨A, k, B, j, C, c, D, d, E, f, rfl, hg, hm⟩
  have HG : Hid (Grew w w6) := Lib.hid ((((((Grew.refl w).alloc _).alloc _).alloc _).alloc _ |>.alloc _).trans hg)
  obtain ⟨n1, n2, a, b, n3, n4⟩ := norm16
  generalize normX s16 w16 = x at *
  obtain ⟨core, scan, edges, rest, late, wh⟩ := x
  simp only at n1 n2 n3
  subst n1 n3
  obtain ⟨bs, os, PB, kb, hA, hlt, hcell, _⟩ := xllR_at hm.scan (i := 1) (by simp)
  simp only [List.getElem_cons_succ, List.getElem_cons_zero] at hcell
  subst hA
  rw [n4] at hcell
  clear hm hg
  unfold nmC
  simp only [n2, List.length_cons, List.length_nil, Nat.zero_add]
  generalize rest.length = lr
  generalize late.length = ll
  generalize wh.length = lw
  clear n2 n4
  go_wp2
  go_ret
  exact ⟨rfl, HG.out.alloc _⟩
end Go.Proofs.Ytchogpdfdpbpfaa

/- Layer 16: a row beside those of a query's conditions; one more table's row. No condition. -/
namespace Go.Proofs.Ytchogpdfdpbpfaa
open Go.RowKit

theorem Bins.snoc {u w : World} {base : Nat} {vs : List Value} {ls : List (List Ex)} (h : Bins u w base vs ls) {v : Value} {l : List Ex} (hx : ExSl u w base v l) (hap : ∀ i, v.ownBlock = some i → ∀ x, x ∈ vs → x.ownBlock ≠ some i) : Bins u w base (vs ++ [v]) (ls ++ [l]) := by
  refine ⟨by simp [h.len], fun j y m hy hm => ?_, fun a b y y' hab hy hy' => ?_⟩
  · rcases Nat.lt_or_ge j vs.length with hj | hj
    · rw [List.getElem?_append_left hj] at hy
      rw [List.getElem?_append_left (by rw [← h.len]; exact hj)] at hm
      exact h.each j y m hy hm
    · rw [List.getElem?_append_right hj] at hy
      rw [List.getElem?_append_right (by rw [← h.len]; exact hj), ← h.len] at hm
      generalize j - vs.length = q at *
      cases q with
      | zero =>
        simp at hy hm
        subst hy hm
        exact hx
      | succ q => simp at hy
  · rcases Nat.lt_or_ge a vs.length with ha | ha
    · rw [List.getElem?_append_left ha] at hy
      rcases Nat.lt_or_ge b vs.length with hb | hb
      · rw [List.getElem?_append_left hb] at hy'
        exact h.apart a b y y' hab hy hy'
      · rw [List.getElem?_append_right hb] at hy'
        have e : y' = v := by
          generalize b - vs.length = q at *
          cases q with
          | zero => simpa using hy'.symm
          | succ q => simp at hy'
        subst e
        intro i hi hi'
        exact hap i hi' y (List.mem_of_getElem? hy) hi
    · rw [List.getElem?_append_right ha] at hy
      have e : y = v := by
        generalize a - vs.length = q at *
        cases q with
        | zero => simpa using hy.symm
        | succ q => simp at hy
      subst e
      rcases Nat.lt_or_ge b vs.length with hb | hb
      · rw [List.getElem?_append_left hb] at hy'
        intro i hi hi'
        exact hap i hi y' (List.mem_of_getElem? hy') hi'
      · have h1 := (List.getElem?_eq_some_iff.1 hy').1
        have h2 := (List.getElem?_eq_some_iff.1 hy).1
        simp at h1 h2
        omega
section
variable {pr : Nat → Prop} {u v w w' : World} {base g : Nat} {core : Int} {sc : List (List Ex)} {es : List Ed} {rs wh : List Ex} {A : Option Addr} {k : Nat} {vs : List Value} {vE vR vL vW : Value}
/-- A row of expressions beside them. -/
def Beside (pr : Nat → Prop) (u w : World) (base : Nat) (vR vW : Value) (vs : List Value) (vl : Value) (l : List Ex) : Prop :=
  ExSl u w base vl l ∧ ∀ i, vl.ownBlock = some i → ¬ pr i ∧ ∀ x, x ∈ vR :: vW :: vs → x.ownBlock ≠ some i
theorem Beside.nil (pr : Nat → Prop) (u w : World) (base : Nat) (vR vW : Value) (vs : List Value) : Beside pr u w base vR vW vs (.slice none 0 0) [] := ⟨ExSl.nil _ _ _, fun i h => by cases h⟩
theorem Nst.side (h : Nst pr u v w base g core sc es rs wh A k vs vE vR vL vW) {vl : Value} {n : Nat} {xs : List Value} (hv : w.ownsRow base 27 9 vl n xs) (hap : ∀ i, vl.ownBlock = some i → ¬ pr i ∧ ∀ x, x ∈ vR :: vW :: vs → x.ownBlock ≠ some i) (hgb : w.grownBy w' vl.ownBlock) :
    Nst pr u v w' base g core sc es rs wh A k vs vE vR vL vW := by
  have hb := own_base hv
  obtain ⟨l1, l2⟩ := h.low
  obtain ⟨B, c, e, hk⟩ := h.edges
  refine ⟨h.blk.grown hgb fun e => by have := hb g e; omega, own_grown h.outer hgb fun b hb' e => type_apart h.outer hv (by decide) b hb' e.symm, h.bins.keep fun j y l hy _ xs hx => own_grown hx hgb fun b hb' e => (hap b e.symm).2 y (List.mem_of_getElem? hy) hb', ⟨B, c, e, own_grown hk hgb fun b hb' e => type_apart hk hv (by decide) b hb' e.symm⟩, h.grew.grown hgb fun b hb' => by have := hb b hb'; omega, Nat.le_trans h.size hgb.size, h.low, fun i hi hn => ?_, fun i hi => ?_, h.apart⟩
  · rw [hgb.block i (Nat.lt_of_lt_of_le hi h.size) (fun e => by have := hb i e.symm; omega)]
    exact h.kept i hi hn
  · obtain ⟨h1, h2, h3⟩ := h.safe i hi
    exact ⟨h1, Nat.lt_of_lt_of_le h2 hgb.size, by rw [hgb.block i h2 (fun e => (hap i e.symm).1 hi)]; exact h3⟩
theorem Beside.put (h : Nst pr u v w base g core sc es rs wh A k vs vE vR vL vW) {vl : Value} {l : List Ex} (hb : Beside pr u w base vR vW vs vl l) {v' : Value} {l' : List Ex} (hx : ExSl u w' base v' l') (hor : v'.ownBlock = vl.ownBlock ∨ v'.ownBlock = some w.heap.size) : Beside pr u w' base vR vW vs v' l' := by
  refine ⟨hx, fun i hi => ?_⟩
  rcases hor with e | e
  · exact hb.2 i (by rw [← e]; exact hi)
  · rw [e] at hi
    cases hi
    refine ⟨fun hp => Nat.lt_irrefl _ (h.safe _ hp).2.1, fun x hx' he => ?_⟩
    have hlt : w.heap.size < w.heap.size := h.lts x (by
      simp only [List.mem_cons] at hx' ⊢
      rcases hx' with q | q | q
      · exact Or.inr (Or.inr (Or.inl q))
      · exact Or.inr (Or.inr (Or.inr (Or.inl q)))
      · exact Or.inr (Or.inr (Or.inr (Or.inr q)))) _ he
    exact Nat.lt_irrefl _ hlt
theorem Beside.more {vl : Value} {l : List Ex} (hb : Beside pr u w base vR vW vs vl l) (g : Grew w w') : Beside pr u w' base vR vW vs vl l := ⟨hb.1.grew g, hb.2⟩
/-- One more table's row. -/
theorem Nst.putO (h : Nst pr u v w base g core sc es rs wh A k vs vE vR vL vW) {vl : Value} {l : List Ex} (hb : Beside pr u w base vR vW vs vl l) {A' : Option Addr} {c' : Nat}
    (ho : w'.ownsRow base 22 1 (.slice A' (vs.length + 1) c') (vs.length + 1) (vs ++ [vl])) (hgb : w.grownBy w' (Value.slice A vs.length k).ownBlock) (hor : (Value.slice A' (vs.length + 1) c').ownBlock = (Value.slice A vs.length k).ownBlock ∨ (Value.slice A' (vs.length + 1) c').ownBlock = some w.heap.size) :
    Nst pr u v (w'.setCell ⟨g, 1, none⟩ (.slice A' (vs.length + 1) c')) base g core (sc ++ [l]) es rs wh A' c' (vs ++ [vl]) vE vR vL vW := by
  have hbb := own_base h.outer
  have l2 := h.low.2
  obtain ⟨B, c, e, hk⟩ := h.edges
  have el : (vs ++ [vl]).length = vs.length + 1 := by simp
  obtain ⟨n1, n2, n3⟩ := kept_next h hgb hbb 1 (.slice A' (vs.length + 1) c')
  have hbs := (((h.bins.snoc hb.1 fun i hi x hx => (hb.2 i hi).2 x hx).other h.outer (by decide) hgb).far (p := ⟨g, 1, none⟩) l2 (.slice A' (vs.length + 1) c'))
  refine ⟨by rw [el]; exact (h.blk.grown hgb fun e => by have := hbb g e; omega).set 1 _, by rw [el]; exact ownsRow_setCell_below ho l2 _, by simpa using hbs, ⟨B, c, e, ownsRow_setCell_below (own_grown hk hgb fun b hb' e => type_apart hk h.outer (by decide) b hb' e.symm) l2 _⟩, n1, n2, h.low, n3, safe_next h hgb (h.apart _ (by simp)) (g_apart h) _, fun y hy => ?_⟩
  simp only [List.mem_cons, List.mem_append, List.not_mem_nil, or_false] at hy
  rcases hy with rfl | rfl | rfl | rfl | hy | rfl
  · rw [el]; exact apart_new h (h.apart (.slice A vs.length k) (by simp)) hor
  · exact h.apart _ (by simp)
  · exact h.apart _ (by simp)
  · exact h.apart _ (by simp)
  · exact h.apart _ (by simp [hy])
  · exact fun i hi => (hb.2 i hi).1
end
end Go.Proofs.Ytchogpdfdpbpfaa

/- Layer 16: a query's conditions, by the document. Condition: a query that lies in memory that is there, of no more than a thousand sources of no more than two hundred parts each. -/
namespace Go.Proofs.Ytchogpdfdpbpfaa
open Go.RowKit
attribute [local go_sem] more_cell more_frozen more_more more_setCell more_of_drew more_of_drewN lt_more le_more past_cell past_cell2 past_frozen past_frozen2 past_setCell past_setCell2 mid_cell mid_frozen mid_setCell
attribute [local go_sem ↓] Go.wp_at_zero Go.wp_at_succ

def AllAt (u v : World) (core : Nat) (sr : List Fr) (a i : Value) (wr : World) : Prop :=
  ∃ (q n : Nat) (A : Option Addr) (c : Nat), 1 ≤ q ∧ (q ≤ core ∨ q = 1) ∧ i = .int .i64 q ∧ a = .slice A n c ∧ n = (allP sr q).length ∧ ExOwn u wr v.heap.size A c (allP sr q) ∧ Grew v wr
theorem rof_start {u v : World} {base g n c : Nat} {core : Int} {A : Option Addr} {xs : List Value} (hb : Blok v g 44 #[.int .i64 core, .slice none 0 0, .slice none 0 0, .slice none 0 0, .slice none 0 0, .slice none 0 0]) (hg : Grew u v) (hu : u.heap.size ≤ g) (hgb : g < base) (hbs : base ≤ v.heap.size) (ho : v.ownsRow base 27 9 (.slice A n c) n xs) :
    Nst (fun i => (Value.slice A n c).ownBlock = some i) u v v base g core [] [] [] [] none 0 [] (.slice none 0 0) (.slice none 0 0) (.slice none 0 0) (.slice none 0 0) :=
  ⟨hb, own_none _ _ _ _, Bins.nil u v base 2, EdSl.nil _ _, hg, hbs, ⟨hu, hgb⟩, fun _ _ _ => rfl, fun i hi => ⟨by have := own_base ho i hi; omega, own_lt ho i hi, rfl⟩, fun x hx i hi => by
    simp only [List.mem_cons, List.not_mem_nil, or_false] at hx
    rcases hx with rfl | rfl | rfl | rfl <;> cases hi⟩
theorem Nst.free {pr : Nat → Prop} {u v w : World} {base g : Nat} {core : Int} {sc : List (List Ex)} {es : List Ed} {rs wh : List Ex} {A : Option Addr} {k : Nat} {vs : List Value} {vE vR vL vW : Value} (h : Nst pr u v w base g core sc es rs wh A k vs vE vR vL vW) : Nst noP u v w base g core sc es rs wh A k vs vE vR vL vW :=
  ⟨h.blk, h.outer, h.bins, h.edges, h.grew, h.size, h.low, h.kept, fun _ hp => hp.elim, fun _ _ _ _ hp => hp⟩
theorem where_two {x : Ex} {core : Int} (h : whereI x core = 2) : ∃ v, useX x = [v] := by
  unfold whereI at h
  split at h
  · omega
  · split at h
    · rename_i h1
      exact List.length_eq_one_iff.1 h1
    · split at h <;> omega
def TAt (pr : Nat → Prop) (u v : World) (base g core : Nat) (l : List Ex) (i : Value) (wr : World) : Prop :=
  ∃ (q : Nat) (vs : List Value) (A : Option Addr) (k : Nat), q ≤ core ∧ i = .int .i64 q ∧ Nst pr u v wr base g core ((List.range q).map fun t : Nat => nT core t l) [] [] [] A k vs (.slice none 0 0) (.slice none 0 0) (.slice none 0 0) (.slice none 0 0)
theorem where_cases (x : Ex) (core : Int) : whereI x core = 0 ∨ whereI x core = 1 ∨ whereI x core = 2 ∨ whereI x core = 3 := by
  unfold whereI
  split
  · omega
  · split
    · omega
    · split <;> omega
def PAt (pr : Nat → Prop) (u v : World) (base g core : Nat) (l : List Ex) (A : Option Addr) (k : Nat) (vs : List Value) (i : Value) (wr : World) : Prop :=
  ∃ (j : Nat) (vE vR vW : Value), j ≤ l.length ∧ i = .int .i64 j ∧ Nst pr u v wr base g core (nS core l) (nE core (l.take j)) (nR core (l.take j)) (nW core (l.take j)) A k vs vE vR (.slice none 0 0) vW
def LAt (pr : Nat → Prop) (u v : World) (base g core q : Nat) (l : List Ex) (sc : List (List Ex)) (A : Option Addr) (k : Nat) (vs : List Value) (a i : Value) (wr : World) : Prop :=
  ∃ (j : Nat) (vl : Value), j ≤ l.length ∧ i = .int .i64 j ∧ a = vl ∧ Nst pr u v wr base g core sc [] [] [] A k vs (.slice none 0 0) (.slice none 0 0) (.slice none 0 0) (.slice none 0 0) ∧ Beside pr u wr base (.slice none 0 0) (.slice none 0 0) vs vl (nT core q (l.take j))
set_option maxHeartbeats 16000000 in
set_option maxRecDepth 100000 in
theorem nrof_any (it : List Ex) (sr : List Fr) (wh : Ex) (gr : List Ex) (A : Option Addr) (k : Nat) (B : Option Addr) (j : Nat) (C : Option Addr) (c : Nat) (D : Option Addr) (d : Nat) (w : World)
    (hs : sr.length ≤ 1000) (hn : ∀ f ∈ sr, f.on.nodes ≤ 200) (hw : wh.nodes ≤ 200) (rB : FrsR (PRow w) B sr) (rC : ExsR (PRow w) C wh.l) :
    Calls Try.prog 15 #[.agg (qyC it sr wh gr A k B j C c D d)] w (NormF w (normX sr wh)) := by
  have HCo : Hid (∀ W, Grew w W → Gives Try.prog 17 #[.agg (qyC it sr wh gr A k B j C c D d)] W (.int .i64 (coreN sr))) := Lib.hid fun W hW => rcore_any it sr wh gr A k B j C c D d W (by omega) (rB.grew hW)
  have HRB := Lib.hid rB
  have HRC := Lib.hid rC
  have hcs : coreN sr ≤ sr.length := coreN_le sr
  obtain ⟨fin, hfin⟩ : ∃ fin, normX sr wh = fin := ⟨_, rfl⟩
  have HF := Lib.hid hfin
  unfold normX at HF
  rw [hfin]
  clear rB rC hfin
  generalize coreN sr = core at *
  unfold qyC at *
  go_enter Try.func15, Try.ntmps15
  go_upto_region 2 with (go_at_call 17; (with_reducible refine (HCo.out _ (((Grew.refl w).alloc _).alloc _)).grows.mono ?_); rintro e w2 ⟨rfl, hg2⟩; have HB1 : Hid (Blok w2 w.heap.size 29 (qyC it sr wh gr A k B j C c D d)) := Lib.hid (((Blok.new _ _ _ _ (by rfl)).alloc _).grew hg2); have HB2 : Hid (Blok w2 (w.heap.size + 1) 44 #[.int .i64 0, .slice none 0 0, .slice none 0 0, .slice none 0 0, .slice none 0 0, .slice none 0 0]) := Lib.hid ((Blok.new _ _ _ _ (by simp)).grew hg2); have HG2 : Hid (Grew w w2) := Lib.hid ((((Grew.refl w).alloc _).alloc _).trans hg2); clear hg2)
  have HGb : Hid (Blok (w2.alloc (.cells #[.int .i64 core, .slice none 0 0, .slice none 0 0, .slice none 0 0, .slice none 0 0, .slice none 0 0] 44)) w2.heap.size 44 #[.int .i64 core, .slice none 0 0, .slice none 0 0, .slice none 0 0, .slice none 0 0, .slice none 0 0]) := Lib.hid (Blok.new _ _ _ _ rfl)
  have HB1' := Lib.hid (HB1.out.alloc (.cells #[.int .i64 core, .slice none 0 0, .slice none 0 0, .slice none 0 0, .slice none 0 0, .slice none 0 0] 44))
  have HB2' := Lib.hid (HB2.out.alloc (.cells #[.int .i64 core, .slice none 0 0, .slice none 0 0, .slice none 0 0, .slice none 0 0, .slice none 0 0] 44))
  have HG2' := Lib.hid (HG2.out.alloc (.cells #[.int .i64 core, .slice none 0 0, .slice none 0 0, .slice none 0 0, .slice none 0 0, .slice none 0 0] 44))
  have hug : w.heap.size ≤ w2.heap.size := HG2.out.size
  have hb1g : w.heap.size < w2.heap.size := HB1.out.lt
  have hb2g : w.heap.size + 1 < w2.heap.size := HB2.out.lt
  clear HB1 HB2 HG2 HCo
  generalize (w2.alloc (.cells #[.int .i64 core, .slice none 0 0, .slice none 0 0, .slice none 0 0, .slice none 0 0, .slice none 0 0] 44)) = W3 at *
  generalize w2.heap.size = g at *
  have hg3 : g < W3.heap.size := HGb.out.lt
  have hlP := allP_len sr hn
  go_upto_region 4 with fail
  go_loopw [4, 5] (fun a i wr => AllAt w W3 core sr a i wr) (fun _ i _ => core - (intOf i).toNat)
  case atStart => exact ⟨1, 0, none, 0, Nat.le_refl _, Or.inr rfl, rfl, rfl, by rw [allP_one]; rfl, by rw [allP_one]; exact ⟨[], ListR.nil, own_none _ _ _ _⟩, Grew.refl _⟩
  case round =>
    obtain ⟨q, n, Aa, ca, hq1, hq2, rfl, rfl, hnl, hoa, hga⟩ := hrel
    have HG := Lib.hid hga
    obtain ⟨css, hcss, hroa⟩ := hoa
    have HC1 := Lib.hid hcss
    have HO := Lib.hid hroa
    have c0 : wr.cell? ⟨g, 0, none⟩ = some (.int .i64 core) := (HGb.out.grew hga).cell 0
    have hgl : g < wr.heap.size := (HGb.out.grew hga).lt
    obtain ⟨xl, x0, x1, x2, x3, x4, x5, x6, x7, x8, x9, x10, x11⟩ := qy_in (HB1'.out.grew hga)
    clear hga hcss hroa
    have hlq := hlP q
    rw [← hnl] at HO hlq
    by_cases h : q < core
    · have hqs : q < sr.length := by omega
      obtain ⟨bf, of, PF, kf, rfl, hpf, h9f, _, _, _⟩ := frsR_at HRB.out hqs
      obtain ⟨p0, a0, a1, a2, a3, a4, a5, a6, a7, a8⟩ := h9f.grew (HG2'.out.trans HG.out)
      have HP : Hid (∀ W, Grew w W → Calls Try.prog 20 #[exV sr[q].on PF kf] W (ColsF w W (partsX sr[q].on))) := Lib.hid fun W hW => rparts_ex _ sr[q].on (Nat.lt_succ_self _) PF kf w W (Nat.le_trans (hn _ (List.getElem_mem hqs)) (by decide)) hW hpf
      have HAl := Lib.hid (allP_succ sr hq1 hqs)
      have hml : (partsX sr[q].on).length ≤ 200 := Nat.le_trans (partsX_len _) (hn _ (List.getElem_mem hqs))
      clear h9f hpf
      have HNl := Lib.hid hnl
      clear hnl
      generalize partsX sr[q].on = m at *
      generalize sr[q].on = y at *
      unfold exV at HP
      go_wp2_with (first | (go_at_call 20; (with_reducible refine (HP.out _ (HG2'.out.trans HG.out)).mono ?_); rintro e W5 ⟨A5, k5, rfl, hg5, dss, hd1, hd2⟩; have HG5 := Lib.hid (HG.out.trans hg5); have HO5 := Lib.hid (own_grewE HO.out hg5); have HD1 := Lib.hid hd1; have HD2 := Lib.hid hd2; have hdl := hd1.flat; have HD3 := Lib.hid (listR_one hd1); clear hg5 hd1 hd2) | (at_builtin; refine wpList_apps rfl (.tmp 23) (.tmp 30) 22 27 9 rfl W3 (.agg #[.int .i64 0, .string ⟨#[]⟩, .string ⟨#[]⟩, .int .i64 0, .int .i64 0, .int .i64 0, .int .i64 0, .string ⟨#[]⟩, .slice none 0 0]) 112 Try.underlying22 infoE rfl (by decide) (by decide) _ n css.flatten rfl HO5.out A5 m.length k5 dss.flatten rfl hdl HD2.out HD3.out (by omega) HG5.out ?_; intro A6 c6 w6 ho6 _ hg6 _ _; have HO6 := Lib.hid ho6; have HG6 := Lib.hid hg6; clear ho6 hg6))
      exact ⟨⟨q + 1, n + m.length, A6, c6, by omega, by omega, by go_num, rfl, by rw [HAl.out, List.length_append, HNl.out], by rw [HAl.out]; exact ExOwn.app HC1.out HD1.out (by rw [← HNl.out]; exact HO6.out), HG6.out⟩, by simp only [intOf]; omega⟩
    · have hqc : allP sr q = allP sr core := by
        rcases hq2 with hq2 | hq2
        · rw [show q = core by omega]
        · subst hq2
          have : core = 0 ∨ core = 1 := by omega
          rcases this with e | e
          · rw [e, allP_one]; rfl
          · rw [e]
      rw [hqc] at HC1 hnl
      have HP : Hid (∀ W, Grew w W → Calls Try.prog 20 #[exV wh C c] W (ColsF w W (partsX wh))) := Lib.hid fun W hW => rparts_ex _ wh (Nat.lt_succ_self _) C c w W (by omega) hW HRC.out
      have hax : allX sr wh core = allP sr core ++ partsX wh := rfl
      have hml : (partsX wh).length ≤ 200 := Nat.le_trans (partsX_len _) hw
      have hmn : ∀ y ∈ partsX wh, y.nodes ≤ 200 := fun y hy => Nat.le_trans (partsX_nodes _ y hy) hw
      have hlq' := hlP core
      have HNl := Lib.hid hnl
      clear hnl
      generalize partsX wh = m at *
      unfold exV at HP
      go_upto_region 8 with (first | (go_at_call 20; (with_reducible refine (HP.out _ (HG2'.out.trans HG.out)).mono ?_); rintro e W5 ⟨A5, k5, rfl, hg5, dss, hd1, hd2⟩; have HG5 := Lib.hid (HG.out.trans hg5); have HO5 := Lib.hid (own_grewE HO.out hg5); have HD1 := Lib.hid hd1; have HD2 := Lib.hid hd2; have hdl := hd1.flat; have HD3 := Lib.hid (listR_one hd1); clear hg5 hd1 hd2) | (at_builtin; refine wpList_apps rfl (.tmp 32) (.tmp 35) 22 27 9 rfl W3 (.agg #[.int .i64 0, .string ⟨#[]⟩, .string ⟨#[]⟩, .int .i64 0, .int .i64 0, .int .i64 0, .int .i64 0, .string ⟨#[]⟩, .slice none 0 0]) 112 Try.underlying22 infoE rfl (by decide) (by decide) _ n css.flatten rfl HO5.out A5 m.length k5 dss.flatten rfl hdl HD2.out HD3.out (by omega) HG5.out ?_; intro A6 c6 w6 ho6 _ hg6 _ _; have HO6 := Lib.hid ho6; have HG6 := Lib.hid hg6; clear ho6 hg6))
      have HXa : Hid (ExOwn w w6 W3.heap.size A6 c6 (allP sr core ++ m)) := Lib.hid (ExOwn.app HC1.out HD1.out (by rw [← HNl.out]; exact HO6.out))
      have hyn : ∀ y ∈ allP sr core ++ m, y.nodes ≤ 200 := fun y hy => by
        rcases List.mem_append.1 hy with hy | hy
        · exact allP_nodes sr hn core y hy
        · exact hmn y hy
      have hll : n + m.length = (allP sr core ++ m).length := by rw [List.length_append, HNl.out]
      have hl6 : (allP sr core ++ m).length ≤ 300000 := by omega
      rw [hll]
      rw [hll] at HO6
      rw [← hax] at hyn HXa HO6 hl6 ⊢
      clear HC1 HO HNl HD1 HD2 HD3 HO5 HG5 HP hll hax hdl
      generalize allX sr wh core = l at *
      have HS0 := Lib.hid (rof_start (HGb.out.grew HG6.out) (HG2'.out.trans HG6.out) hug hg3 HG6.out.size HO6.out)
      obtain ⟨csl, hcl, hol⟩ := HXa.out
      have HCl := Lib.hid hcl
      have HOl := Lib.hid hol
      clear hcl hol HXa HO6 HG
      go_upto_region 9 with fail
      go_loopw [6] (fun i wr => TAt (fun i => (Value.slice A6 l.length c6).ownBlock = some i) w w6 W3.heap.size g core l i wr) (fun i _ => core - (intOf i).toNat)
      case atStart => exact ⟨0, [], none, 0, Nat.zero_le _, rfl, HS0.out⟩
      case round =>
        obtain ⟨q3, vs, AS, kS, hq3, rfl, hN3⟩ := hrel
        have HN3 := Lib.hid hN3
        clear hN3
        have c0 : wr.cell? ⟨g, 0, none⟩ = some (.int .i64 core) := HN3.out.blk.cell 0
        have hgl : g < wr.heap.size := HN3.out.blk.lt
        by_cases h3 : q3 < core
        · have HSc : Hid (((List.range q3).map fun t : Nat => nT core t l) ++ [nT core q3 l] = (List.range (q3 + 1)).map fun t : Nat => nT core t l) := Lib.hid (by rw [List.range_succ, List.map_append]; rfl)
          have hsc : ((List.range q3).map fun t : Nat => nT core t l).length ≤ 1000 := by simp; omega
          generalize ((List.range q3).map fun t : Nat => nT core t l) = sc at *
          go_upto_region 13 with fail
          clear c0 hgl
          go_loopw [7, 8] (fun a i wr => LAt (fun i => (Value.slice A6 l.length c6).ownBlock = some i) w w6 W3.heap.size g core q3 l sc AS kS vs a i wr) (fun _ i _ => l.length - (intOf i).toNat)
          case atStart => exact ⟨0, _, Nat.zero_le _, rfl, rfl, HN3.out, Beside.nil _ _ _ _ _ _ _⟩
          case round =>
            obtain ⟨j4, vl, hj4, rfl, rfl, hN4, hB4⟩ := hrel
            have HN4 := Lib.hid hN4
            have HB4 := Lib.hid hB4
            clear hN4 hB4
            by_cases h4 : j4 < l.length
            · have hX : ExsU w wr A6 l := (show ExOwn w wr _ A6 c6 l from ⟨csl, HCl.out, own_same HOl.out fun i hi => (HN4.out.safe i hi).2.2⟩).u
              obtain ⟨ba, oa, PA, ka, rfl, hpa, h9⟩ := exsU_nine hX h4
              have HA9 := Lib.hid h9
              have HPA := Lib.hid hpa
              have hy2 := hyn _ (List.getElem_mem h4)
              have HWh : Hid (∀ W, Grew w W → Gives Try.prog 46 #[exV l[j4] PA ka, .int .i64 core] W (.int .i64 (whereI l[j4] core))) := Lib.hid fun W hW => rwhere_any l[j4] core PA ka (by omega) W (hpa.grew hW)
              have HUs : Hid (∀ W, Grew w W → Calls Try.prog 12 #[exV l[j4] PA ka] W (SetF W (useX l[j4]))) := Lib.hid fun W hW => ruses_any l[j4] PA ka (by omega) W (hpa.grew hW)
              have HSn : Hid (nT core q3 (l.take (j4 + 1)) = nT core q3 (l.take j4) ++ if whereI l[j4] core = 2 ∧ useX l[j4] = [(q3 : Int)] then [l[j4]] else []) := Lib.hid (by rw [List.take_succ_eq_append_getElem h4, nT_snoc])
              have hlt : (nT core q3 (l.take j4)).length ≤ 300000 := Nat.le_trans (List.length_filter_le _ _) (by rw [List.length_take]; omega)
              have hw2 := where_two (x := l[j4]) (core := core)
              clear hX h9 hpa hy2
              generalize nT core q3 (l.take j4) = lt at *
              generalize l[j4] = y at *
              generalize whereI y core = wi at *
              generalize useX y = us at *
              unfold exV at HWh HUs
              have ht4 : (j4 : Int) < (l.length : Int) := by omega
              go_upto_region 15 with fail
              have hS0 : Grew wr wr.drew := (Grew.refl wr).drew
              by_cases hwi : wi = 2
              · obtain ⟨v, rfl⟩ := hw2 hwi
                subst hwi
                clear hw2
                by_cases hvq : v = (q3 : Int)
                · have hvq' : (v == (q3 : Int)) = true := by simpa using hvq
                  refine wp_region_S (fun W => Grew wr W) (by kernel_rfl) ?_
                  refine held_take 0 (v := ?_) rfl (by kernel_rfl) (by kernel_rfl) (by kernel_rfl) (fun _ _ _ h => h) (by rfl) ?_ hS0 ?_
                  rotate_left
                  · (intro W hW; go_simp; with_reducible rfl)
                  refine held_take 1 (v := ?_) rfl (by kernel_rfl) (by kernel_rfl) (by kernel_rfl) (fun _ _ _ h => h) (by rfl) ?_ hS0 ?_
                  rotate_left
                  · (intro W hW; go_simp; with_reducible rfl)
                  refine held_take 2 (v := ?_) rfl (by kernel_rfl) (by kernel_rfl) (by kernel_rfl) (fun _ _ _ h => h) (by rfl) ?_ hS0 ?_
                  rotate_left
                  · (intro W hW; go_simp; with_reducible rfl)
                  refine held_norm (a' := ?_) ?_ ?_
                  rotate_left
                  · (go_simp; with_reducible rfl)
                  refine held_take 3 (v := ?_) rfl (by kernel_rfl) (by kernel_rfl) (by kernel_rfl) (fun _ _ _ h => h) (by rfl) ?_ hS0 ?_
                  rotate_left
                  · (intro W hW; obtain ⟨p0, a0, a1, a2, a3, a4, a5, a6, a7, a8⟩ := HA9.out.grew hW; go_simp; with_reducible rfl)
                  refine held_norm (a' := ?_) ?_ ?_
                  rotate_left
                  · (go_simp; with_reducible rfl)
                  refine held_take 4 (v := ?_) rfl (by kernel_rfl) (by kernel_rfl) (by kernel_rfl) (fun _ _ _ h => h) (by rfl) ?_ hS0 ?_
                  rotate_left
                  · (intro W hW; go_simp; with_reducible rfl)
                  refine held_norm (a' := ?_) ?_ ?_
                  rotate_left
                  · (go_simp; with_reducible rfl)
                  refine held_take 5 (v := ?_) rfl (by kernel_rfl) (by kernel_rfl) (by kernel_rfl) (fun _ _ _ h => h) (by rfl) ?_ hS0 ?_
                  rotate_left
                  · (intro W hW; have q := (HN4.out.blk.grew hW).cell 0; have ql := (HN4.out.blk.grew hW).lt; simp at q; go_simp; with_reducible rfl)
                  refine held_norm (a' := ?_) ?_ ?_
                  rotate_left
                  · (go_simp; with_reducible rfl)
                  refine held_call 6 (by kernel_rfl) rfl (by rfl) (fun K hK => ?_)
                  go_simp
                  go_wp2_with ((go_at_call 46; (with_reducible refine (HWh.out _ (HN4.out.grew.trans hS0)).grows.mono ?_); rintro e w8 ⟨rfl, hg8⟩; have hS8 : Grew wr w8 := hS0.trans hg8))
                  refine hK.out _ _ hS8 ?_
                  clear hK K
                  refine held_take 7 (v := ?_) rfl (by kernel_rfl) (by kernel_rfl) (by kernel_rfl) (fun _ _ _ h => h) (by rfl) ?_ hS8 ?_
                  rotate_left
                  · (intro W hW; go_simp; with_reducible rfl)
                  refine held_take 8 (v := ?_) rfl (by kernel_rfl) (by kernel_rfl) (by kernel_rfl) (fun _ _ _ h => h) (by rfl) ?_ hS8 ?_
                  rotate_left
                  · (intro W hW; go_simp; with_reducible rfl)
                  refine held_take 9 (v := ?_) rfl (by kernel_rfl) (by kernel_rfl) (by kernel_rfl) (fun _ _ _ h => h) (by rfl) ?_ hS8 ?_
                  rotate_left
                  · (intro W hW; go_simp; with_reducible rfl)
                  refine held_take 10 (v := ?_) rfl (by kernel_rfl) (by kernel_rfl) (by kernel_rfl) (fun _ _ _ h => h) (by rfl) ?_ hS8 ?_
                  rotate_left
                  · (intro W hW; go_simp; with_reducible rfl)
                  refine held_take 11 (v := ?_) rfl (by kernel_rfl) (by kernel_rfl) (by kernel_rfl) (fun _ _ _ h => h) (by rfl) ?_ hS8 ?_
                  rotate_left
                  · (intro W hW; go_simp; with_reducible rfl)
                  refine held_norm (a' := ?_) ?_ ?_
                  rotate_left
                  · (go_simp; with_reducible rfl)
                  refine held_take 12 (v := ?_) rfl (by kernel_rfl) (by kernel_rfl) (by kernel_rfl) (fun _ _ _ h => h) (by rfl) ?_ hS8 ?_
                  rotate_left
                  · (intro W hW; obtain ⟨p0, a0, a1, a2, a3, a4, a5, a6, a7, a8⟩ := HA9.out.grew hW; go_simp; with_reducible rfl)
                  refine held_norm (a' := ?_) ?_ ?_
                  rotate_left
                  · (go_simp; with_reducible rfl)
                  refine held_take 16 (v := ?_) rfl (by kernel_rfl) (by kernel_rfl) (by kernel_rfl) (fun _ _ _ h => h) (by rfl) ?_ hS8 ?_
                  rotate_left
                  · (intro W hW; go_simp; with_reducible rfl)
                  refine held_norm (a' := ?_) ?_ ?_
                  rotate_left
                  · (go_simp; with_reducible rfl)
                  refine held_call 13 (by kernel_rfl) rfl (by rfl) (fun K hK => ?_)
                  go_simp
                  go_wp2_with ((go_at_call 12; (with_reducible refine (HUs.out _ (HN4.out.grew.trans hS8)).mono ?_); rintro e w9 ⟨B9, k9, rfl, hk9, hg9, hr9⟩; have hS9 : Grew wr w9 := hS8.trans hg9))
                  refine hK.out _ _ hS9 ?_
                  clear hK K
                  obtain ⟨bu, ou, rfl, hbu, hcu⟩ := rowI_at hr9 (j := 0) (by simp)
                  simp only [List.getElem_cons_zero, Nat.add_zero] at hcu
                  simp only [List.length_cons, List.length_nil, Nat.zero_add]
                  refine held_take 14 (v := ?_) rfl (by kernel_rfl) (by kernel_rfl) (by kernel_rfl) (fun _ _ _ h => h) (by rfl) ?_ hS9 ?_
                  rotate_left
                  · (intro W hW; go_simp; with_reducible rfl)
                  refine held_norm (a' := ?_) ?_ ?_
                  rotate_left
                  · (go_simp; with_reducible rfl)
                  refine held_call 15 (by kernel_rfl) rfl (by rfl) (fun K hK => ?_)
                  go_simp
                  go_wp2_with (fail)
                  refine hK.out _ _ hS9 ?_
                  clear hK K
                  refine held_take 17 (v := ?_) rfl (by kernel_rfl) (by kernel_rfl) (by kernel_rfl) (fun _ _ _ h => h) (by rfl) ?_ hS9 ?_
                  rotate_left
                  · (intro W hW; go_simp; with_reducible rfl)
                  refine held_take 18 (v := ?_) rfl (by kernel_rfl) (by kernel_rfl) (by kernel_rfl) (fun _ _ _ h => h) (by rfl) ?_ hS9 ?_
                  rotate_left
                  · (intro W hW; go_simp; with_reducible rfl)
                  refine held_norm (a' := ?_) ?_ ?_
                  rotate_left
                  · (go_simp; with_reducible rfl)
                  refine held_done (by kernel_rfl) ?_
                  have HN9 := Lib.hid (HN4.out.more hS9)
                  have HB9 := Lib.hid (HB4.out.more hS9)
                  obtain ⟨p0, a0, a1, a2, a3, a4, a5, a6, a7, a8⟩ := HA9.out.grew hS9
                  obtain ⟨⟨Al, cl, rfl, csl2, hcl2, hol2⟩, hap⟩ := HB9.out
                  have HOl2 := Lib.hid hol2
                  have HCl2 := Lib.hid hcl2
                  have HAp := Lib.hid hap
                  clear HN4 HB4 hr9 hcu hbu hS8 hS0 hg9 hg8 HA9 HWh HUs hol2 hcl2 hap
                  go_wp2_with (at_builtin; refine wpList_appC rfl (.tmp 68) (.tmp 73) 22 27 9 rfl W3.heap.size (.agg #[.int .i64 0, .string ⟨#[]⟩, .string ⟨#[]⟩, .int .i64 0, .int .i64 0, .int .i64 0, .int .i64 0, .string ⟨#[]⟩, .slice none 0 0]) 112 Try.underlying22 infoE rfl (by decide) (by decide) _ lt.length csl2.flatten rfl (own_alloc HOl2.out _) _ 1 1 (exC y PA ka) rfl rfl (row_new _ _ _ #[.int .i64 y.op, .string y.tab, .string y.name, .int .i64 y.t, .int .i64 y.c, .int .i64 y.vk, .int .i64 y.vi, .string y.vs, .slice PA y.l.length ka] rfl) (exC_one _ _ _) (by omega) (by have := HN9.out.size; simp; omega) ?_; intro A7 c7 w7 ho7 hgb7 hor7; have HNs := Lib.hid ((HN9.out.more ((Grew.refl w9).alloc _)).side (own_alloc HOl2.out _) HAp.out hgb7); have HBs := Lib.hid (Beside.put (HN9.out.more ((Grew.refl w9).alloc _)) (HB9.out.more ((Grew.refl w9).alloc _)) (ExSl.snoc HCl2.out HPA.out ho7) hor7); clear ho7 hgb7 hor7)
                  exact ⟨⟨j4 + 1, _, by omega, by go_num, rfl, HNs.out, by rw [HSn.out, if_pos (by simp [hvq])]; exact HBs.out⟩, by simp only [intOf]; omega⟩
                · have hvq' : (v == (q3 : Int)) = false := by simpa using hvq
                  refine wp_region_S (fun W => Grew wr W) (by kernel_rfl) ?_
                  refine held_take 0 (v := ?_) rfl (by kernel_rfl) (by kernel_rfl) (by kernel_rfl) (fun _ _ _ h => h) (by rfl) ?_ hS0 ?_
                  rotate_left
                  · (intro W hW; go_simp; with_reducible rfl)
                  refine held_take 1 (v := ?_) rfl (by kernel_rfl) (by kernel_rfl) (by kernel_rfl) (fun _ _ _ h => h) (by rfl) ?_ hS0 ?_
                  rotate_left
                  · (intro W hW; go_simp; with_reducible rfl)
                  refine held_take 2 (v := ?_) rfl (by kernel_rfl) (by kernel_rfl) (by kernel_rfl) (fun _ _ _ h => h) (by rfl) ?_ hS0 ?_
                  rotate_left
                  · (intro W hW; go_simp; with_reducible rfl)
                  refine held_norm (a' := ?_) ?_ ?_
                  rotate_left
                  · (go_simp; with_reducible rfl)
                  refine held_take 3 (v := ?_) rfl (by kernel_rfl) (by kernel_rfl) (by kernel_rfl) (fun _ _ _ h => h) (by rfl) ?_ hS0 ?_
                  rotate_left
                  · (intro W hW; obtain ⟨p0, a0, a1, a2, a3, a4, a5, a6, a7, a8⟩ := HA9.out.grew hW; go_simp; with_reducible rfl)
                  refine held_norm (a' := ?_) ?_ ?_
                  rotate_left
                  · (go_simp; with_reducible rfl)
                  refine held_take 4 (v := ?_) rfl (by kernel_rfl) (by kernel_rfl) (by kernel_rfl) (fun _ _ _ h => h) (by rfl) ?_ hS0 ?_
                  rotate_left
                  · (intro W hW; go_simp; with_reducible rfl)
                  refine held_norm (a' := ?_) ?_ ?_
                  rotate_left
                  · (go_simp; with_reducible rfl)
                  refine held_take 5 (v := ?_) rfl (by kernel_rfl) (by kernel_rfl) (by kernel_rfl) (fun _ _ _ h => h) (by rfl) ?_ hS0 ?_
                  rotate_left
                  · (intro W hW; have q := (HN4.out.blk.grew hW).cell 0; have ql := (HN4.out.blk.grew hW).lt; simp at q; go_simp; with_reducible rfl)
                  refine held_norm (a' := ?_) ?_ ?_
                  rotate_left
                  · (go_simp; with_reducible rfl)
                  refine held_call 6 (by kernel_rfl) rfl (by rfl) (fun K hK => ?_)
                  go_simp
                  go_wp2_with ((go_at_call 46; (with_reducible refine (HWh.out _ (HN4.out.grew.trans hS0)).grows.mono ?_); rintro e w8 ⟨rfl, hg8⟩; have hS8 : Grew wr w8 := hS0.trans hg8))
                  refine hK.out _ _ hS8 ?_
                  clear hK K
                  refine held_take 7 (v := ?_) rfl (by kernel_rfl) (by kernel_rfl) (by kernel_rfl) (fun _ _ _ h => h) (by rfl) ?_ hS8 ?_
                  rotate_left
                  · (intro W hW; go_simp; with_reducible rfl)
                  refine held_take 8 (v := ?_) rfl (by kernel_rfl) (by kernel_rfl) (by kernel_rfl) (fun _ _ _ h => h) (by rfl) ?_ hS8 ?_
                  rotate_left
                  · (intro W hW; go_simp; with_reducible rfl)
                  refine held_take 9 (v := ?_) rfl (by kernel_rfl) (by kernel_rfl) (by kernel_rfl) (fun _ _ _ h => h) (by rfl) ?_ hS8 ?_
                  rotate_left
                  · (intro W hW; go_simp; with_reducible rfl)
                  refine held_take 10 (v := ?_) rfl (by kernel_rfl) (by kernel_rfl) (by kernel_rfl) (fun _ _ _ h => h) (by rfl) ?_ hS8 ?_
                  rotate_left
                  · (intro W hW; go_simp; with_reducible rfl)
                  refine held_take 11 (v := ?_) rfl (by kernel_rfl) (by kernel_rfl) (by kernel_rfl) (fun _ _ _ h => h) (by rfl) ?_ hS8 ?_
                  rotate_left
                  · (intro W hW; go_simp; with_reducible rfl)
                  refine held_norm (a' := ?_) ?_ ?_
                  rotate_left
                  · (go_simp; with_reducible rfl)
                  refine held_take 12 (v := ?_) rfl (by kernel_rfl) (by kernel_rfl) (by kernel_rfl) (fun _ _ _ h => h) (by rfl) ?_ hS8 ?_
                  rotate_left
                  · (intro W hW; obtain ⟨p0, a0, a1, a2, a3, a4, a5, a6, a7, a8⟩ := HA9.out.grew hW; go_simp; with_reducible rfl)
                  refine held_norm (a' := ?_) ?_ ?_
                  rotate_left
                  · (go_simp; with_reducible rfl)
                  refine held_take 16 (v := ?_) rfl (by kernel_rfl) (by kernel_rfl) (by kernel_rfl) (fun _ _ _ h => h) (by rfl) ?_ hS8 ?_
                  rotate_left
                  · (intro W hW; go_simp; with_reducible rfl)
                  refine held_norm (a' := ?_) ?_ ?_
                  rotate_left
                  · (go_simp; with_reducible rfl)
                  refine held_call 13 (by kernel_rfl) rfl (by rfl) (fun K hK => ?_)
                  go_simp
                  go_wp2_with ((go_at_call 12; (with_reducible refine (HUs.out _ (HN4.out.grew.trans hS8)).mono ?_); rintro e w9 ⟨B9, k9, rfl, hk9, hg9, hr9⟩; have hS9 : Grew wr w9 := hS8.trans hg9))
                  refine hK.out _ _ hS9 ?_
                  clear hK K
                  obtain ⟨bu, ou, rfl, hbu, hcu⟩ := rowI_at hr9 (j := 0) (by simp)
                  simp only [List.getElem_cons_zero, Nat.add_zero] at hcu
                  simp only [List.length_cons, List.length_nil, Nat.zero_add]
                  refine held_take 14 (v := ?_) rfl (by kernel_rfl) (by kernel_rfl) (by kernel_rfl) (fun _ _ _ h => h) (by rfl) ?_ hS9 ?_
                  rotate_left
                  · (intro W hW; go_simp; with_reducible rfl)
                  refine held_norm (a' := ?_) ?_ ?_
                  rotate_left
                  · (go_simp; with_reducible rfl)
                  refine held_call 15 (by kernel_rfl) rfl (by rfl) (fun K hK => ?_)
                  go_simp
                  go_wp2_with (fail)
                  refine hK.out _ _ hS9 ?_
                  clear hK K
                  refine held_take 17 (v := ?_) rfl (by kernel_rfl) (by kernel_rfl) (by kernel_rfl) (fun _ _ _ h => h) (by rfl) ?_ hS9 ?_
                  rotate_left
                  · (intro W hW; go_simp; with_reducible rfl)
                  refine held_take 18 (v := ?_) rfl (by kernel_rfl) (by kernel_rfl) (by kernel_rfl) (fun _ _ _ h => h) (by rfl) ?_ hS9 ?_
                  rotate_left
                  · (intro W hW; go_simp; with_reducible rfl)
                  refine held_norm (a' := ?_) ?_ ?_
                  rotate_left
                  · (go_simp; with_reducible rfl)
                  refine held_done (by kernel_rfl) ?_
                  have HN9 := Lib.hid (HN4.out.more hS9)
                  have HB9 := Lib.hid (HB4.out.more hS9)
                  clear HN4 HB4 hr9 hcu hbu hS8 hS0 hg9 hg8 HA9 HWh HUs
                  go_wp2
                  exact ⟨⟨j4 + 1, _, by omega, by go_num, rfl, HN9.out, by rw [HSn.out, if_neg (by simp [hvq]), List.append_nil]; exact HB9.out⟩, by simp only [intOf]; omega⟩
              · have hwi' : (wi == 2) = false := by simpa using hwi
                clear hw2
                refine wp_region_S (fun W => Grew wr W) (by kernel_rfl) ?_
                refine held_take 0 (v := ?_) rfl (by kernel_rfl) (by kernel_rfl) (by kernel_rfl) (fun _ _ _ h => h) (by rfl) ?_ hS0 ?_
                rotate_left
                · (intro W hW; go_simp; with_reducible rfl)
                refine held_take 1 (v := ?_) rfl (by kernel_rfl) (by kernel_rfl) (by kernel_rfl) (fun _ _ _ h => h) (by rfl) ?_ hS0 ?_
                rotate_left
                · (intro W hW; go_simp; with_reducible rfl)
                refine held_take 2 (v := ?_) rfl (by kernel_rfl) (by kernel_rfl) (by kernel_rfl) (fun _ _ _ h => h) (by rfl) ?_ hS0 ?_
                rotate_left
                · (intro W hW; go_simp; with_reducible rfl)
                refine held_norm (a' := ?_) ?_ ?_
                rotate_left
                · (go_simp; with_reducible rfl)
                refine held_take 3 (v := ?_) rfl (by kernel_rfl) (by kernel_rfl) (by kernel_rfl) (fun _ _ _ h => h) (by rfl) ?_ hS0 ?_
                rotate_left
                · (intro W hW; obtain ⟨p0, a0, a1, a2, a3, a4, a5, a6, a7, a8⟩ := HA9.out.grew hW; go_simp; with_reducible rfl)
                refine held_norm (a' := ?_) ?_ ?_
                rotate_left
                · (go_simp; with_reducible rfl)
                refine held_take 4 (v := ?_) rfl (by kernel_rfl) (by kernel_rfl) (by kernel_rfl) (fun _ _ _ h => h) (by rfl) ?_ hS0 ?_
                rotate_left
                · (intro W hW; go_simp; with_reducible rfl)
                refine held_norm (a' := ?_) ?_ ?_
                rotate_left
                · (go_simp; with_reducible rfl)
                refine held_take 5 (v := ?_) rfl (by kernel_rfl) (by kernel_rfl) (by kernel_rfl) (fun _ _ _ h => h) (by rfl) ?_ hS0 ?_
                rotate_left
                · (intro W hW; have q := (HN4.out.blk.grew hW).cell 0; have ql := (HN4.out.blk.grew hW).lt; simp at q; go_simp; with_reducible rfl)
                refine held_norm (a' := ?_) ?_ ?_
                rotate_left
                · (go_simp; with_reducible rfl)
                refine held_call 6 (by kernel_rfl) rfl (by rfl) (fun K hK => ?_)
                go_simp
                go_wp2_with ((go_at_call 46; (with_reducible refine (HWh.out _ (HN4.out.grew.trans hS0)).grows.mono ?_); rintro e w8 ⟨rfl, hg8⟩; have hS8 : Grew wr w8 := hS0.trans hg8))
                refine hK.out _ _ hS8 ?_
                clear hK K
                refine held_take 7 (v := ?_) rfl (by kernel_rfl) (by kernel_rfl) (by kernel_rfl) (fun _ _ _ h => h) (by rfl) ?_ hS8 ?_
                rotate_left
                · (intro W hW; go_simp; with_reducible rfl)
                refine held_take 8 (v := ?_) rfl (by kernel_rfl) (by kernel_rfl) (by kernel_rfl) (fun _ _ _ h => h) (by rfl) ?_ hS8 ?_
                rotate_left
                · (intro W hW; go_simp; with_reducible rfl)
                refine held_norm (a' := ?_) ?_ ?_
                rotate_left
                · (go_simp; with_reducible rfl)
                refine held_skip 9 rfl (by kernel_rfl) (by kernel_rfl) (by kernel_rfl) (fun _ _ _ h => h) (by rfl) hS8 ?_
                refine held_norm (a' := ?_) ?_ ?_
                rotate_left
                · (go_simp; with_reducible rfl)
                refine held_skip 10 rfl (by kernel_rfl) (by kernel_rfl) (by kernel_rfl) (fun _ _ _ h => h) (by rfl) hS8 ?_
                refine held_norm (a' := ?_) ?_ ?_
                rotate_left
                · (go_simp; with_reducible rfl)
                refine held_skip 11 rfl (by kernel_rfl) (by kernel_rfl) (by kernel_rfl) (fun _ _ _ h => h) (by rfl) hS8 ?_
                refine held_norm (a' := ?_) ?_ ?_
                rotate_left
                · (go_simp; with_reducible rfl)
                refine held_skip 12 rfl (by kernel_rfl) (by kernel_rfl) (by kernel_rfl) (fun _ _ _ h => h) (by rfl) hS8 ?_
                refine held_norm (a' := ?_) ?_ ?_
                rotate_left
                · (go_simp; with_reducible rfl)
                refine held_skip 13 rfl (by kernel_rfl) (by kernel_rfl) (by kernel_rfl) (fun _ _ _ h => h) (by rfl) hS8 ?_
                refine held_norm (a' := ?_) ?_ ?_
                rotate_left
                · (go_simp; with_reducible rfl)
                refine held_skip 14 rfl (by kernel_rfl) (by kernel_rfl) (by kernel_rfl) (fun _ _ _ h => h) (by rfl) hS8 ?_
                refine held_norm (a' := ?_) ?_ ?_
                rotate_left
                · (go_simp; with_reducible rfl)
                refine held_skip 15 rfl (by kernel_rfl) (by kernel_rfl) (by kernel_rfl) (fun _ _ _ h => h) (by rfl) hS8 ?_
                refine held_norm (a' := ?_) ?_ ?_
                rotate_left
                · (go_simp; with_reducible rfl)
                refine held_skip 16 rfl (by kernel_rfl) (by kernel_rfl) (by kernel_rfl) (fun _ _ _ h => h) (by rfl) hS8 ?_
                refine held_norm (a' := ?_) ?_ ?_
                rotate_left
                · (go_simp; with_reducible rfl)
                refine held_skip 17 rfl (by kernel_rfl) (by kernel_rfl) (by kernel_rfl) (fun _ _ _ h => h) (by rfl) hS8 ?_
                refine held_norm (a' := ?_) ?_ ?_
                rotate_left
                · (go_simp; with_reducible rfl)
                refine held_take 18 (v := ?_) rfl (by kernel_rfl) (by kernel_rfl) (by kernel_rfl) (fun _ _ _ h => h) (by rfl) ?_ hS8 ?_
                rotate_left
                · (intro W hW; go_simp; with_reducible rfl)
                refine held_norm (a' := ?_) ?_ ?_
                rotate_left
                · (go_simp; with_reducible rfl)
                refine held_done (by kernel_rfl) ?_
                have HN9 := Lib.hid (HN4.out.more hS8)
                have HB9 := Lib.hid (HB4.out.more hS8)
                clear HN4 HB4 hS0 hg8 HA9 HWh HUs
                go_wp2
                exact ⟨⟨j4 + 1, _, by omega, by go_num, rfl, HN9.out, by rw [HSn.out, if_neg (fun e => hwi e.1), List.append_nil]; exact HB9.out⟩, by simp only [intOf]; omega⟩
            · obtain rfl : j4 = l.length := by omega
              rw [List.take_length] at HB4
              have c1 : wr.cell? ⟨g, 1, none⟩ = some (.slice AS vs.length kS) := HN4.out.blk.cell 1
              have hgl : g < wr.heap.size := HN4.out.blk.lt
              have HOo := Lib.hid HN4.out.outer
              have hvl6 : vs.length ≤ 1000 := by have := HN4.out.sizes; have := hsc; omega
              obtain ⟨⟨Al, cl, evl, _⟩, _⟩ := HB4.out
              subst evl
              go_wp2_with (at_builtin; refine wpList_appC rfl (.tmp 76) (.tmp 78) 40 22 1 rfl W3.heap.size (.slice none 0 0) 24 Try.underlying40 infoEx rfl (by decide) (by decide) _ vs.length vs rfl (own_alloc HOo.out _) _ 1 1 [.slice Al (nT core q3 l).length cl] rfl rfl (row_one _ _ _ _ rfl) (by simp [Value.oneCell']) (by omega) (by have := HN4.out.size; simp; omega) ?_; intro A7 c7 w7 ho7 hgb7 hor7; have HNo := Lib.hid ((HN4.out.more ((Grew.refl wr).alloc _)).putO (HB4.out.more ((Grew.refl wr).alloc _)) ho7 hgb7 hor7); have hbk := (HN4.out.more ((Grew.refl wr).alloc _)).blk.grown hgb7 (fun e => by have := own_base HOo.out g e; omega); have z1 := hbk.thaw 1; have zc := hbk.cell 1; have zl := hbk.lt; simp at zc; clear hbk ho7 hgb7 hor7)
              exact ⟨⟨q3 + 1, _, _, _, by omega, by go_num, by rw [← HSc.out]; exact HNo.out⟩, by simp only [intOf]; omega⟩
        · obtain rfl : q3 = core := by omega
          change Hid (Nst _ w w6 wr W3.heap.size g q3 (nS q3 l) [] [] [] AS kS vs _ _ _ _) at HN3
          go_upto_region 19 with fail
          clear c0 hgl
          go_loopw [9] (fun i wr => PAt (fun i => (Value.slice A6 l.length c6).ownBlock = some i) w w6 W3.heap.size g q3 l AS kS vs i wr) (fun i _ => l.length - (intOf i).toNat)
          case atStart => exact ⟨0, _, _, _, Nat.zero_le _, rfl, HN3.out⟩
          case round =>
            obtain ⟨j5, vE, vR, vW, hj5, rfl, hN5⟩ := hrel
            have HN5 := Lib.hid hN5
            clear hN5
            by_cases h5 : j5 < l.length
            · have hX : ExsU w wr A6 l := (show ExOwn w wr _ A6 c6 l from ⟨csl, HCl.out, own_same HOl.out fun i hi => (HN5.out.safe i hi).2.2⟩).u
              obtain ⟨ba, oa, PA, ka, rfl, hpa, h9⟩ := exsU_nine hX h5
              have HA9 := Lib.hid h9
              have HPA := Lib.hid hpa
              have hy2 := hyn _ (List.getElem_mem h5)
              have HWh : Hid (∀ W, Grew w W → Gives Try.prog 46 #[exV l[j5] PA ka, .int .i64 (q3 : Int)] W (.int .i64 (whereI l[j5] q3))) := Lib.hid fun W hW => rwhere_any l[j5] q3 PA ka (by omega) W (hpa.grew hW)
              have HEd : Hid (∀ W, Grew w W → Gives Try.prog 10 #[exV l[j5] PA ka] W (.tuple #[edV (edgeP l[j5]).1, .bool (edgeP l[j5]).2])) := Lib.hid fun W hW => redge_any l[j5] PA ka W (hpa.grew hW)
              have HSn : Hid (nE q3 (l.take (j5 + 1)) = nE q3 (l.take j5) ++ (if whereI l[j5] q3 = 3 then [(edgeP l[j5]).1] else []) ∧ nR q3 (l.take (j5 + 1)) = nR q3 (l.take j5) ++ (if whereI l[j5] q3 = 0 then [l[j5]] else []) ∧ nW q3 (l.take (j5 + 1)) = nW q3 (l.take j5) ++ (if whereI l[j5] q3 = 1 then [l[j5]] else [])) := Lib.hid (by rw [List.take_succ_eq_append_getElem h5, nE_snoc, nR_snoc, nW_snoc]; exact ⟨rfl, rfl, rfl⟩)
              have hfl : ∀ p : Ex → Bool, ((l.take j5).filter p).length ≤ 300000 := fun p => Nat.le_trans (List.length_filter_le _ _) (by rw [List.length_take]; omega)
              have hlr : (nR q3 (l.take j5)).length ≤ 300000 := hfl _
              have hlw : (nW q3 (l.take j5)).length ≤ 300000 := hfl _
              have hle : (nE q3 (l.take j5)).length ≤ 300000 := by unfold nE; rw [List.length_map]; exact hfl _
              have hwc := where_cases l[j5] q3
              clear hX h9 hpa hy2 hfl
              generalize nR (q3 : Int) (l.take j5) = lr at *
              generalize nW (q3 : Int) (l.take j5) = lw at *
              generalize nE (q3 : Int) (l.take j5) = le at *
              generalize l[j5] = y at *
              generalize whereI y q3 = wi at *
              generalize edgeP y = ed at *
              obtain ⟨⟨e1, e2, e3, e4⟩, is⟩ := ed
              unfold exV at HWh HEd
              unfold edV at HEd
              have ht5 : (j5 : Int) < (l.length : Int) := by omega
              go_upto_region 21 with fail
              have hS0 : Grew wr wr.drew := (Grew.refl wr).drew
              refine wp_region_S (fun W => Grew wr W) (by kernel_rfl) ?_
              refine held_take 0 (v := ?_) rfl (by kernel_rfl) (by kernel_rfl) (by kernel_rfl) (fun _ _ _ h => h) (by rfl) ?_ hS0 ?_
              rotate_left
              · (intro W hW; go_simp; with_reducible rfl)
              refine held_take 1 (v := ?_) rfl (by kernel_rfl) (by kernel_rfl) (by kernel_rfl) (fun _ _ _ h => h) (by rfl) ?_ hS0 ?_
              rotate_left
              · (intro W hW; go_simp; with_reducible rfl)
              refine held_take 2 (v := ?_) rfl (by kernel_rfl) (by kernel_rfl) (by kernel_rfl) (fun _ _ _ h => h) (by rfl) ?_ hS0 ?_
              rotate_left
              · (intro W hW; go_simp; with_reducible rfl)
              refine held_norm (a' := ?_) ?_ ?_
              rotate_left
              · (go_simp; with_reducible rfl)
              refine held_take 3 (v := ?_) rfl (by kernel_rfl) (by kernel_rfl) (by kernel_rfl) (fun _ _ _ h => h) (by rfl) ?_ hS0 ?_
              rotate_left
              · (intro W hW; obtain ⟨p0, a0, a1, a2, a3, a4, a5, a6, a7, a8⟩ := HA9.out.grew hW; go_simp; with_reducible rfl)
              refine held_norm (a' := ?_) ?_ ?_
              rotate_left
              · (go_simp; with_reducible rfl)
              refine held_take 4 (v := ?_) rfl (by kernel_rfl) (by kernel_rfl) (by kernel_rfl) (fun _ _ _ h => h) (by rfl) ?_ hS0 ?_
              rotate_left
              · (intro W hW; go_simp; with_reducible rfl)
              refine held_norm (a' := ?_) ?_ ?_
              rotate_left
              · (go_simp; with_reducible rfl)
              refine held_take 5 (v := ?_) rfl (by kernel_rfl) (by kernel_rfl) (by kernel_rfl) (fun _ _ _ h => h) (by rfl) ?_ hS0 ?_
              rotate_left
              · (intro W hW; have q := (HN5.out.blk.grew hW).cell 0; have ql := (HN5.out.blk.grew hW).lt; simp at q; go_simp; with_reducible rfl)
              refine held_norm (a' := ?_) ?_ ?_
              rotate_left
              · (go_simp; with_reducible rfl)
              refine held_call 6 (by kernel_rfl) rfl (by rfl) (fun K hK => ?_)
              go_simp
              go_wp2_with ((go_at_call 46; (with_reducible refine (HWh.out _ (HN5.out.grew.trans hS0)).grows.mono ?_); rintro e w8 ⟨rfl, hg8⟩; have hS8 : Grew wr w8 := hS0.trans hg8))
              refine hK.out _ _ hS8 ?_
              clear hK K
              refine held_take 7 (v := ?_) rfl (by kernel_rfl) (by kernel_rfl) (by kernel_rfl) (fun _ _ _ h => h) (by rfl) ?_ hS8 ?_
              rotate_left
              · (intro W hW; go_simp; with_reducible rfl)
              refine held_norm (a' := ?_) ?_ ?_
              rotate_left
              · (go_simp; with_reducible rfl)
              refine held_done (by kernel_rfl) ?_
              have HN9 := Lib.hid (HN5.out.more hS8)
              have HA8 := Lib.hid (HA9.out.grew hS8)
              have hba8 : ba < w8.heap.size := HA8.out.lt
              clear HN5 HA9 hS8 hS0 hg8 HWh
              rcases hwc with rfl | rfl | rfl | rfl
              · obtain ⟨AN, cN, evN, css9, hcs9, hoN⟩ := HN9.out.bins.each 0 vR lr rfl rfl
                subst evN
                have HCS := Lib.hid hcs9
                have HON := Lib.hid hoN
                have hnb : ∀ i, (Value.slice AN lr.length cN).ownBlock = some i → i ≠ ba := fun i hi e => HN9.out.apart _ (by simp) i hi (by rw [e]; rfl)
                have HNb := Lib.hid hnb
                clear hcs9 hoN hnb
                go_upto_region 23 with fail
                have HD := Lib.hid (HN9.out.more (Grew.refl w8).drew)
                have hS1 : Blok w8.drew g 44 #[.int .i64 q3, .slice AS vs.length kS, vE, (.slice AN lr.length cN), .slice none 0 0, vW] ∧ w8.drew.heap[ba]? = w8.heap[ba]? := ⟨HD.out.blk, rfl⟩
                refine wp_region_last (fun W => Blok W g 44 #[.int .i64 q3, .slice AS vs.length kS, vE, (.slice AN lr.length cN), .slice none 0 0, vW] ∧ W.heap[ba]? = w8.heap[ba]?) 9 rfl (by kernel_rfl) ?_
                refine last_take 0 (v := ?_) rfl (by kernel_rfl) (by kernel_rfl) (by kernel_rfl) (by kernel_rfl) (fun _ _ _ h => h) (by rfl) ?_ hS1 ?_
                rotate_left
                · (intro W hW; go_simp; with_reducible rfl)
                refine last_norm (a' := ?_) ?_ ?_
                rotate_left
                · (go_simp; with_reducible rfl)
                refine last_take 1 (v := ?_) rfl (by kernel_rfl) (by kernel_rfl) (by kernel_rfl) (by kernel_rfl) (fun _ _ _ h => h) (by rfl) ?_ hS1 ?_
                rotate_left
                · (intro W hW; have q := hW.1.cell 3; have ql := hW.1.lt; simp at q; go_simp; with_reducible rfl)
                refine last_norm (a' := ?_) ?_ ?_
                rotate_left
                · (go_simp; with_reducible rfl)
                refine last_take 2 (v := ?_) rfl (by kernel_rfl) (by kernel_rfl) (by kernel_rfl) (by kernel_rfl) (fun _ _ _ h => h) (by rfl) ?_ hS1 ?_
                rotate_left
                · (intro W hW; go_simp; with_reducible rfl)
                refine last_take 3 (v := ?_) rfl (by kernel_rfl) (by kernel_rfl) (by kernel_rfl) (by kernel_rfl) (fun _ _ _ h => h) (by rfl) ?_ hS1 ?_
                rotate_left
                · (intro W hW; go_simp; with_reducible rfl)
                refine last_take 4 (v := ?_) rfl (by kernel_rfl) (by kernel_rfl) (by kernel_rfl) (by kernel_rfl) (fun _ _ _ h => h) (by rfl) ?_ hS1 ?_
                rotate_left
                · (intro W hW; go_simp; with_reducible rfl)
                refine last_norm (a' := ?_) ?_ ?_
                rotate_left
                · (go_simp; with_reducible rfl)
                refine last_take 5 (v := ?_) rfl (by kernel_rfl) (by kernel_rfl) (by kernel_rfl) (by kernel_rfl) (fun _ _ _ h => h) (by rfl) ?_ hS1 ?_
                rotate_left
                · (intro W hW; obtain ⟨p0, a0, a1, a2, a3, a4, a5, a6, a7, a8⟩ := HA8.out.kept hW.2; go_simp; with_reducible rfl)
                refine last_norm (a' := ?_) ?_ ?_
                rotate_left
                · (go_simp; with_reducible rfl)
                refine last_call 6 (by kernel_rfl) (by kernel_rfl) rfl (by rfl) (fun K hK => ?_)
                go_simp
                go_wp2_with fail
                have HDa := Lib.hid (HD.out.more ((Grew.refl w8.drew).alloc (.cells #[.int .i64 y.op, .string y.tab, .string y.name, .int .i64 y.t, .int .i64 y.c, .int .i64 y.vk, .int .i64 y.vi, .string y.vs, .slice PA y.l.length ka] 27)))
                have hSa : Blok (w8.drew.alloc (.cells #[.int .i64 y.op, .string y.tab, .string y.name, .int .i64 y.t, .int .i64 y.c, .int .i64 y.vk, .int .i64 y.vi, .string y.vs, .slice PA y.l.length ka] 27)) g 44 #[.int .i64 q3, .slice AS vs.length kS, vE, (.slice AN lr.length cN), .slice none 0 0, vW] ∧ (w8.drew.alloc (.cells #[.int .i64 y.op, .string y.tab, .string y.name, .int .i64 y.t, .int .i64 y.c, .int .i64 y.vk, .int .i64 y.vi, .string y.vs, .slice PA y.l.length ka] 27)).heap[ba]? = w8.heap[ba]? := ⟨HDa.out.blk, heap_grew ((Grew.refl w8.drew).alloc _) hba8⟩
                refine hK.out _ _ hSa ?_
                clear hK K
                refine last_call 7 (by kernel_rfl) (by kernel_rfl) rfl (by rfl) (fun K hK => ?_)
                refine wp_appC (.tmp 97) (.tmp 102) 22 27 9 rfl W3.heap.size (.agg #[.int .i64 0, .string ⟨#[]⟩, .string ⟨#[]⟩, .int .i64 0, .int .i64 0, .int .i64 0, .int .i64 0, .string ⟨#[]⟩, .slice none 0 0]) 112 Try.underlying22 infoE rfl (by decide) (by decide) _ lr.length _ rfl (own_alloc (own_grewE HON.out (Grew.refl w8).drew) _) _ 1 1 (exC y PA ka) rfl rfl (row_new w8.drew _ _ #[.int .i64 y.op, .string y.tab, .string y.name, .int .i64 y.t, .int .i64 y.c, .int .i64 y.vk, .int .i64 y.vi, .string y.vs, .slice PA y.l.length ka] rfl) (exC_one _ _ _) (by omega) HDa.out.size ?_
                intro A7 c7 w7 ho7 hg7 hor7
                have HNf := Lib.hid (HDa.out.putR HCS.out HPA.out ho7 hg7 hor7)
                have hbk := HDa.out.blk.grown hg7 (fun e => by have := own_base HON.out g e; omega)
                have hkb : w7.heap[ba]? = w8.heap[ba]? := (hg7.block ba (Nat.lt_of_lt_of_le hba8 ((Grew.refl w8).drew.alloc _).size) (fun e => HNb.out ba e.symm rfl)).trans hSa.2
                refine hK.out _ _ ⟨hbk, hkb⟩ ?_
                clear hK K
                refine last_take 8 (v := ?_) rfl (by kernel_rfl) (by kernel_rfl) (by kernel_rfl) (by kernel_rfl) (fun _ _ _ h => h) (by rfl) ?_ ⟨hbk, hkb⟩ ?_
                rotate_left
                · (intro W hW; go_simp; with_reducible rfl)
                refine last_norm (a' := ?_) ?_ ?_
                rotate_left
                · (go_simp; with_reducible rfl)
                have z2 := hbk.thaw 3
                have zc := hbk.cell 3
                have zl := hbk.lt
                simp at zc
                refine last_last (by kernel_rfl) (by kernel_rfl) rfl (by rfl) (fun K hK => ?_)
                go_simp
                go_wp2_with fail
                refine hK.out _ _ ?_
                clear hK K hbk hkb hSa hS1 ho7 hg7 hor7 z2 zc zl
                go_wp2
                exact ⟨⟨j5 + 1, _, _, _, by omega, by go_num, by rw [HSn.out.1, HSn.out.2.1, HSn.out.2.2]; simpa using HNf.out⟩, by simp only [intOf]; omega⟩
              · obtain ⟨AN, cN, evN, css9, hcs9, hoN⟩ := HN9.out.bins.each 1 vW lw rfl rfl
                subst evN
                have HCS := Lib.hid hcs9
                have HON := Lib.hid hoN
                have hnb : ∀ i, (Value.slice AN lw.length cN).ownBlock = some i → i ≠ ba := fun i hi e => HN9.out.apart _ (by simp) i hi (by rw [e]; rfl)
                have HNb := Lib.hid hnb
                clear hcs9 hoN hnb
                go_upto_region 25 with fail
                have HD := Lib.hid (HN9.out.more (Grew.refl w8).drew)
                have hS1 : Blok w8.drew g 44 #[.int .i64 q3, .slice AS vs.length kS, vE, vR, .slice none 0 0, (.slice AN lw.length cN)] ∧ w8.drew.heap[ba]? = w8.heap[ba]? := ⟨HD.out.blk, rfl⟩
                refine wp_region_last (fun W => Blok W g 44 #[.int .i64 q3, .slice AS vs.length kS, vE, vR, .slice none 0 0, (.slice AN lw.length cN)] ∧ W.heap[ba]? = w8.heap[ba]?) 9 rfl (by kernel_rfl) ?_
                refine last_take 0 (v := ?_) rfl (by kernel_rfl) (by kernel_rfl) (by kernel_rfl) (by kernel_rfl) (fun _ _ _ h => h) (by rfl) ?_ hS1 ?_
                rotate_left
                · (intro W hW; go_simp; with_reducible rfl)
                refine last_norm (a' := ?_) ?_ ?_
                rotate_left
                · (go_simp; with_reducible rfl)
                refine last_take 1 (v := ?_) rfl (by kernel_rfl) (by kernel_rfl) (by kernel_rfl) (by kernel_rfl) (fun _ _ _ h => h) (by rfl) ?_ hS1 ?_
                rotate_left
                · (intro W hW; have q := hW.1.cell 5; have ql := hW.1.lt; simp at q; go_simp; with_reducible rfl)
                refine last_norm (a' := ?_) ?_ ?_
                rotate_left
                · (go_simp; with_reducible rfl)
                refine last_take 2 (v := ?_) rfl (by kernel_rfl) (by kernel_rfl) (by kernel_rfl) (by kernel_rfl) (fun _ _ _ h => h) (by rfl) ?_ hS1 ?_
                rotate_left
                · (intro W hW; go_simp; with_reducible rfl)
                refine last_take 3 (v := ?_) rfl (by kernel_rfl) (by kernel_rfl) (by kernel_rfl) (by kernel_rfl) (fun _ _ _ h => h) (by rfl) ?_ hS1 ?_
                rotate_left
                · (intro W hW; go_simp; with_reducible rfl)
                refine last_take 4 (v := ?_) rfl (by kernel_rfl) (by kernel_rfl) (by kernel_rfl) (by kernel_rfl) (fun _ _ _ h => h) (by rfl) ?_ hS1 ?_
                rotate_left
                · (intro W hW; go_simp; with_reducible rfl)
                refine last_norm (a' := ?_) ?_ ?_
                rotate_left
                · (go_simp; with_reducible rfl)
                refine last_take 5 (v := ?_) rfl (by kernel_rfl) (by kernel_rfl) (by kernel_rfl) (by kernel_rfl) (fun _ _ _ h => h) (by rfl) ?_ hS1 ?_
                rotate_left
                · (intro W hW; obtain ⟨p0, a0, a1, a2, a3, a4, a5, a6, a7, a8⟩ := HA8.out.kept hW.2; go_simp; with_reducible rfl)
                refine last_norm (a' := ?_) ?_ ?_
                rotate_left
                · (go_simp; with_reducible rfl)
                refine last_call 6 (by kernel_rfl) (by kernel_rfl) rfl (by rfl) (fun K hK => ?_)
                go_simp
                go_wp2_with fail
                have HDa := Lib.hid (HD.out.more ((Grew.refl w8.drew).alloc (.cells #[.int .i64 y.op, .string y.tab, .string y.name, .int .i64 y.t, .int .i64 y.c, .int .i64 y.vk, .int .i64 y.vi, .string y.vs, .slice PA y.l.length ka] 27)))
                have hSa : Blok (w8.drew.alloc (.cells #[.int .i64 y.op, .string y.tab, .string y.name, .int .i64 y.t, .int .i64 y.c, .int .i64 y.vk, .int .i64 y.vi, .string y.vs, .slice PA y.l.length ka] 27)) g 44 #[.int .i64 q3, .slice AS vs.length kS, vE, vR, .slice none 0 0, (.slice AN lw.length cN)] ∧ (w8.drew.alloc (.cells #[.int .i64 y.op, .string y.tab, .string y.name, .int .i64 y.t, .int .i64 y.c, .int .i64 y.vk, .int .i64 y.vi, .string y.vs, .slice PA y.l.length ka] 27)).heap[ba]? = w8.heap[ba]? := ⟨HDa.out.blk, heap_grew ((Grew.refl w8.drew).alloc _) hba8⟩
                refine hK.out _ _ hSa ?_
                clear hK K
                refine last_call 7 (by kernel_rfl) (by kernel_rfl) rfl (by rfl) (fun K hK => ?_)
                refine wp_appC (.tmp 108) (.tmp 113) 22 27 9 rfl W3.heap.size (.agg #[.int .i64 0, .string ⟨#[]⟩, .string ⟨#[]⟩, .int .i64 0, .int .i64 0, .int .i64 0, .int .i64 0, .string ⟨#[]⟩, .slice none 0 0]) 112 Try.underlying22 infoE rfl (by decide) (by decide) _ lw.length _ rfl (own_alloc (own_grewE HON.out (Grew.refl w8).drew) _) _ 1 1 (exC y PA ka) rfl rfl (row_new w8.drew _ _ #[.int .i64 y.op, .string y.tab, .string y.name, .int .i64 y.t, .int .i64 y.c, .int .i64 y.vk, .int .i64 y.vi, .string y.vs, .slice PA y.l.length ka] rfl) (exC_one _ _ _) (by omega) HDa.out.size ?_
                intro A7 c7 w7 ho7 hg7 hor7
                have HNf := Lib.hid (HDa.out.putW HCS.out HPA.out ho7 hg7 hor7)
                have hbk := HDa.out.blk.grown hg7 (fun e => by have := own_base HON.out g e; omega)
                have hkb : w7.heap[ba]? = w8.heap[ba]? := (hg7.block ba (Nat.lt_of_lt_of_le hba8 ((Grew.refl w8).drew.alloc _).size) (fun e => HNb.out ba e.symm rfl)).trans hSa.2
                refine hK.out _ _ ⟨hbk, hkb⟩ ?_
                clear hK K
                refine last_take 8 (v := ?_) rfl (by kernel_rfl) (by kernel_rfl) (by kernel_rfl) (by kernel_rfl) (fun _ _ _ h => h) (by rfl) ?_ ⟨hbk, hkb⟩ ?_
                rotate_left
                · (intro W hW; go_simp; with_reducible rfl)
                refine last_norm (a' := ?_) ?_ ?_
                rotate_left
                · (go_simp; with_reducible rfl)
                have z2 := hbk.thaw 5
                have zc := hbk.cell 5
                have zl := hbk.lt
                simp at zc
                refine last_last (by kernel_rfl) (by kernel_rfl) rfl (by rfl) (fun K hK => ?_)
                go_simp
                go_wp2_with fail
                refine hK.out _ _ ?_
                clear hK K hbk hkb hSa hS1 ho7 hg7 hor7 z2 zc zl
                go_wp2
                exact ⟨⟨j5 + 1, _, _, _, by omega, by go_num, by rw [HSn.out.1, HSn.out.2.1, HSn.out.2.2]; simpa using HNf.out⟩, by simp only [intOf]; omega⟩
              · go_wp2
                exact ⟨⟨j5 + 1, _, _, _, by omega, by go_num, by rw [HSn.out.1, HSn.out.2.1, HSn.out.2.2]; simpa using HN9.out⟩, by simp only [intOf]; omega⟩
              · obtain ⟨AN, cN, evN, hoN⟩ := HN9.out.edges
                subst evN
                have HON := Lib.hid hoN
                clear hoN
                obtain ⟨p0, a0, a1, a2, a3, a4, a5, a6, a7, a8⟩ := HA8.out
                go_upto_region 28 with (go_at_call 10; (with_reducible refine (HEd.out _ HN9.out.grew).grows.mono ?_); rintro e Wb ⟨rfl, hgb⟩; have HGb2 := Lib.hid hgb; clear hgb)
                clear p0 a0 a1 a2 a3 a4 a5 a6 a7 a8
                have HNc := Lib.hid ((HN9.out.more HGb2.out).more ((Grew.refl Wb).alloc (.cells #[.int .i64 e1, .int .i64 e2, .int .i64 e3, .int .i64 e4] 34)))
                have HEc : Hid (Blok (Wb.alloc (.cells #[.int .i64 e1, .int .i64 e2, .int .i64 e3, .int .i64 e4] 34)) Wb.heap.size 34 #[.int .i64 e1, .int .i64 e2, .int .i64 e3, .int .i64 e4]) := Lib.hid (Blok.new _ _ _ _ rfl)
                have HOc := Lib.hid (own_grewE (own_grewE HON.out HGb2.out) ((Grew.refl Wb).alloc (.cells #[.int .i64 e1, .int .i64 e2, .int .i64 e3, .int .i64 e4] 34)))
                clear HON HGb2
                generalize (Wb.alloc (.cells #[.int .i64 e1, .int .i64 e2, .int .i64 e3, .int .i64 e4] 34)) = Wc at *
                generalize Wb.heap.size = bc at *
                obtain ⟨r0, d0, d1, d2, d3, _, _, _, _⟩ := ed_in HEc.out
                have m2 : Wc.cell? ⟨g, 2, none⟩ = some (.slice AN le.length cN) := HNc.out.blk.cell 2
                have hgl : g < Wc.heap.size := HNc.out.blk.lt
                have hsz := HNc.out.size
                go_wp2_with (at_builtin; refine wpList_appC rfl (.tmp 127) (.tmp 129) 41 34 4 rfl W3.heap.size (.agg #[.int .i64 0, .int .i64 0, .int .i64 0, .int .i64 0]) 32 Try.underlying41 infoEd rfl (by decide) (by decide) _ le.length _ rfl (own_alloc HOc.out _) _ 1 1 [.int .i64 e1, .int .i64 e2, .int .i64 e3, .int .i64 e4] rfl rfl (row_new _ _ _ #[.int .i64 e1, .int .i64 e2, .int .i64 e3, .int .i64 e4] (by simp)) (by simp [Value.oneCell']) (by omega) (by simp; omega) ?_; intro A7 c7 w7 ho7 hgb7 hor7; have HNf := Lib.hid ((HNc.out.more ((Grew.refl Wc).alloc _)).putE (e := ⟨e1, e2, e3, e4⟩) ho7 hgb7 hor7); have hbk := ((HNc.out.more ((Grew.refl Wc).alloc _)).blk.grown hgb7 (fun e => by have := own_base HOc.out g e; omega)); have z2 := hbk.thaw 2; have zc := hbk.cell 2; have zl := hbk.lt; simp at zc; clear hbk ho7 hgb7 hor7)
                exact ⟨⟨j5 + 1, _, _, _, by omega, by go_num, by rw [HSn.out.1, HSn.out.2.1, HSn.out.2.2]; simpa using HNf.out⟩, by simp only [intOf]; omega⟩
            · obtain rfl : j5 = l.length := by omega
              rw [List.take_length] at HN5
              have HNe := Lib.hid HN5.out.free
              clear HN5
              have c0 : wr.cell? ⟨g, 0, none⟩ = some (.int .i64 q3) := HNe.out.blk.cell 0
              have hgl : g < wr.heap.size := HNe.out.blk.lt
              go_upto_region 30 with fail
              go_loopw [13] (fun i wr => LtsAt (fun vL W => Nst noP w w6 W W3.heap.size g q3 (nS q3 l) (nE q3 l) (nR q3 l) (nW q3 l) AS kS vs vE vR vL vW) w W3.heap.size sr q3 i wr) (fun i _ => sr.length - (intOf i).toNat)
              case atStart => exact ⟨0, _, by omega, rfl, HNe.out, LaSl.nil _ _ _⟩
              case round =>
                obtain ⟨q2, vL, hq2', rfl, hN2, hL2⟩ := hrel
                have HN2 := Lib.hid hN2
                have HL2 := Lib.hid hL2
                clear hN2 hL2 HNe c0 hgl
                have hbx : Blok wr w.heap.size 29 (qyC it sr wh gr A k B j C c D d) := (HN2.out.kept _ (by omega) (by omega)).trans (HB1'.out.grew HG6.out)
                obtain ⟨xl, x0, x1, x2, x3, x4, x5, x6, x7, x8, x9, x10, x11⟩ := qy_in hbx
                by_cases h2 : q3 + q2 < sr.length
                · have HLs0 : Hid (∀ t (h : t < sr.length), q3 + q2 = t → latesX sr q3 (q2 + 1) = latesX sr q3 q2 ++ [lateX sr[t] (t : Int)]) := Lib.hid (by rintro _ h rfl; exact latesX_succ h)
                  have hll := latesX_len sr q3 q2
                  obtain ⟨t, ht⟩ : ∃ t, q3 + q2 = t := ⟨_, rfl⟩
                  have h2t : t < sr.length := by omega
                  have HLs := Lib.hid (HLs0.out t h2t ht)
                  clear HLs0
                  simp only [ht]
                  obtain ⟨bf, of, PF, kf, rfl, hpf, hbf, hcf⟩ := frsR_all HRB.out h2t
                  have ht2 : (t : Int) < (sr.length : Int) := by omega
                  go_upto_region 32 with fail
                  have HLt : Hid (∀ W, Grew w W → Calls Try.prog 47 #[frV sr[t] PF kf, .int .i64 (t : Int)] W (LateF w W (lateX sr[t] (t : Int)))) := Lib.hid fun W hW => rlate_any sr[t] _ PF kf (Nat.le_trans (hn _ (List.getElem_mem h2t)) (by decide)) w W hW hpf
                  obtain ⟨AL, cL, css, rfl, hLc, hLo⟩ := HL2.out
                  have HLc := Lib.hid hLc
                  have HLo := Lib.hid hLo
                  have f0 : w.cell? ⟨bf, of + t * 12, none⟩ = _ := hcf 0 _ rfl
                  have f1 := hcf 1 _ rfl
                  have f2 := hcf 2 _ rfl
                  have f3 := hcf 3 _ rfl
                  have f4 := hcf 4 _ rfl
                  have f5 := hcf 5 _ rfl
                  have f6 := hcf 6 _ rfl
                  have f7 := hcf 7 _ rfl
                  have f8 := hcf 8 _ rfl
                  have f9 := hcf 9 _ rfl
                  have f10 := hcf 10 _ rfl
                  have f11 := hcf 11 _ rfl
                  clear hcf hpf hLc hLo HL2 x0 x1 x2 x3 x4 x5 x6 x7 x8 x9 x10 x11
                  generalize lateX sr[t] (t : Int) = y at *
                  generalize latesX sr q3 q2 = lts at *
                  generalize sr[t] = fr at *
                  have ht2 : (t : Int) < (sr.length : Int) := by omega
                  unfold frV at HLt
                  have hq1000 : lts.length ≤ 1000 := by omega
                  clear hll
                  have hbx2 := hbx
                  clear hbx
                  have HD := Lib.hid (HN2.out.more (Grew.refl wr).drew)
                  have hS0 : Blok wr.drew g 44 #[.int .i64 q3, .slice AS vs.length kS, vE, vR, .slice AL lts.length cL, vW] ∧ Blok wr.drew w.heap.size 29 (qyC it sr wh gr A k (some ⟨bf, of, none⟩) j C c D d) ∧ Grew w wr.drew := ⟨HD.out.blk, hbx2.grew (Grew.refl wr).drew, HD.out.grew⟩
                  refine wp_region_last (fun W => Blok W g 44 #[.int .i64 q3, .slice AS vs.length kS, vE, vR, .slice AL lts.length cL, vW] ∧ Blok W w.heap.size 29 (qyC it sr wh gr A k (some ⟨bf, of, none⟩) j C c D d) ∧ Grew w W) 12 rfl (by kernel_rfl) ?_
                  refine last_take 0 (v := ?_) rfl (by kernel_rfl) (by kernel_rfl) (by kernel_rfl) (by kernel_rfl) (fun _ _ _ h => h) (by rfl) ?_ hS0 ?_
                  rotate_left
                  · (intro W hW; go_simp; with_reducible rfl)
                  refine last_norm (a' := ?_) ?_ ?_
                  rotate_left
                  · (go_simp; with_reducible rfl)
                  refine last_take 1 (v := ?_) rfl (by kernel_rfl) (by kernel_rfl) (by kernel_rfl) (by kernel_rfl) (fun _ _ _ h => h) (by rfl) ?_ hS0 ?_
                  rotate_left
                  · (intro W hW; have q := hW.1.cell 4; have ql := hW.1.lt; simp at q; go_simp; with_reducible rfl)
                  refine last_norm (a' := ?_) ?_ ?_
                  rotate_left
                  · (go_simp; with_reducible rfl)
                  refine last_take 2 (v := ?_) rfl (by kernel_rfl) (by kernel_rfl) (by kernel_rfl) (by kernel_rfl) (fun _ _ _ h => h) (by rfl) ?_ hS0 ?_
                  rotate_left
                  · (intro W hW; go_simp; with_reducible rfl)
                  refine last_norm (a' := ?_) ?_ ?_
                  rotate_left
                  · (go_simp; with_reducible rfl)
                  refine last_take 3 (v := ?_) rfl (by kernel_rfl) (by kernel_rfl) (by kernel_rfl) (by kernel_rfl) (fun _ _ _ h => h) (by rfl) ?_ hS0 ?_
                  rotate_left
                  · (intro W hW; obtain ⟨xl, x0, x1, x2, x3, x4, x5, x6, x7, x8, x9, x10, x11⟩ := qy_in hW.2.1; go_simp; with_reducible rfl)
                  refine last_norm (a' := ?_) ?_ ?_
                  rotate_left
                  · (go_simp; with_reducible rfl)
                  refine last_take 4 (v := ?_) rfl (by kernel_rfl) (by kernel_rfl) (by kernel_rfl) (by kernel_rfl) (fun _ _ _ h => h) (by rfl) ?_ hS0 ?_
                  rotate_left
                  · (intro W hW; go_simp; with_reducible rfl)
                  refine last_take 5 (v := ?_) rfl (by kernel_rfl) (by kernel_rfl) (by kernel_rfl) (by kernel_rfl) (fun _ _ _ h => h) (by rfl) ?_ hS0 ?_
                  rotate_left
                  · (intro W hW; go_simp; with_reducible rfl)
                  refine last_norm (a' := ?_) ?_ ?_
                  rotate_left
                  · (go_simp; with_reducible rfl)
                  refine last_take 6 (v := ?_) rfl (by kernel_rfl) (by kernel_rfl) (by kernel_rfl) (by kernel_rfl) (fun _ _ _ h => h) (by rfl) ?_ hS0 ?_
                  rotate_left
                  · (intro W hW; have e0 := cell_keep hW.2.2 hbf (f0); have e1 := cell_keep hW.2.2 hbf (f1); have e2 := cell_keep hW.2.2 hbf (f2); have e3 := cell_keep hW.2.2 hbf (f3); have e4 := cell_keep hW.2.2 hbf (f4); have e5 := cell_keep hW.2.2 hbf (f5); have e6 := cell_keep hW.2.2 hbf (f6); have e7 := cell_keep hW.2.2 hbf (f7); have e8 := cell_keep hW.2.2 hbf (f8); have e9 := cell_keep hW.2.2 hbf (f9); have e10 := cell_keep hW.2.2 hbf (f10); have e11 := cell_keep hW.2.2 hbf (f11); have el := Nat.lt_of_lt_of_le hbf (Grew.size hW.2.2); go_simp; with_reducible rfl)
                  refine last_norm (a' := ?_) ?_ ?_
                  rotate_left
                  · (go_simp; with_reducible rfl)
                  refine last_take 7 (v := ?_) rfl (by kernel_rfl) (by kernel_rfl) (by kernel_rfl) (by kernel_rfl) (fun _ _ _ h => h) (by rfl) ?_ hS0 ?_
                  rotate_left
                  · (intro W hW; go_simp; with_reducible rfl)
                  refine last_norm (a' := ?_) ?_ ?_
                  rotate_left
                  · (go_simp; with_reducible rfl)
                  refine last_call 8 (by kernel_rfl) (by kernel_rfl) rfl (by rfl) (fun K hK => ?_)
                  go_simp
                  go_wp2_with ((go_at_call 47; go_loud (with_reducible refine (HLt.out _ HD.out.grew).mono ?_); go_loud (rintro e w6 ⟨vK, vS, vR1, rfl, hg6, hK6, hB6⟩); have HN6 := Lib.hid (HD.out.more hg6); have hS6 : Blok w6 g 44 #[.int .i64 q3, .slice AS vs.length kS, vE, vR, .slice AL lts.length cL, vW] ∧ Blok w6 w.heap.size 29 (qyC it sr wh gr A k (some ⟨bf, of, none⟩) j C c D d) ∧ Grew w w6 := ⟨HN6.out.blk, hS0.2.1.grew hg6, HN6.out.grew⟩))
                  refine hK.out _ _ hS6 ?_
                  clear hK K
                  have HE6 := Lib.hid (late_elem (base := W3.heap.size) HD.out.size hK6 hB6)
                  obtain ⟨AK, cK, eK, _⟩ := hK6
                  obtain ⟨AS2, cS2, eS2, _⟩ := hB6.each 0 vS y.scan rfl rfl
                  obtain ⟨AR2, cR2, eR2, _⟩ := hB6.each 1 vR1 y.rest rfl rfl
                  subst eK eS2 eR2
                  have HLc6 : Hid (ListR (LaU w w6 W3.heap.size) 5 lts css) := Lib.hid (HLc.out.map fun x cs hx => hx.map (fun _ _ q => (q.grew (Grew.refl wr).drew).grew hg6) (fun _ _ q => (q.grew (Grew.refl wr).drew).grew hg6))
                  have HLo6 := Lib.hid (own_grewE (own_grewE HLo.out (Grew.refl wr).drew) hg6)
                  refine last_call 9 (by kernel_rfl) (by kernel_rfl) rfl (by rfl) (fun K hK => ?_)
                  go_simp
                  go_wp2_with fail
                  have HNa := Lib.hid (HN6.out.more ((Grew.refl w6).alloc (.cells #[.int .i64 y.table, .int .i64 y.join, .slice AK y.keys.length cK, .slice AS2 y.scan.length cS2, .slice AR2 y.rest.length cR2] 72)))
                  have hSa : Blok (w6.alloc (.cells #[.int .i64 y.table, .int .i64 y.join, .slice AK y.keys.length cK, .slice AS2 y.scan.length cS2, .slice AR2 y.rest.length cR2] 72)) g 44 #[.int .i64 q3, .slice AS vs.length kS, vE, vR, .slice AL lts.length cL, vW] ∧ Blok (w6.alloc (.cells #[.int .i64 y.table, .int .i64 y.join, .slice AK y.keys.length cK, .slice AS2 y.scan.length cS2, .slice AR2 y.rest.length cR2] 72)) w.heap.size 29 (qyC it sr wh gr A k (some ⟨bf, of, none⟩) j C c D d) ∧ Grew w (w6.alloc (.cells #[.int .i64 y.table, .int .i64 y.join, .slice AK y.keys.length cK, .slice AS2 y.scan.length cS2, .slice AR2 y.rest.length cR2] 72)) := ⟨HNa.out.blk, hS6.2.1.alloc _, HNa.out.grew⟩
                  have HLca : Hid (ListR (LaU w (w6.alloc (.cells #[.int .i64 y.table, .int .i64 y.join, .slice AK y.keys.length cK, .slice AS2 y.scan.length cS2, .slice AR2 y.rest.length cR2] 72)) W3.heap.size) 5 lts css) := Lib.hid (HLc6.out.map fun x cs hx => hx.map (fun _ _ q => q.grew ((Grew.refl w6).alloc _)) (fun _ _ q => q.grew ((Grew.refl w6).alloc _)))
                  have HEa := Lib.hid (HE6.out.map (w' := w6.alloc (.cells #[.int .i64 y.table, .int .i64 y.join, .slice AK y.keys.length cK, .slice AS2 y.scan.length cS2, .slice AR2 y.rest.length cR2] 72)) (fun _ _ q => q.grew ((Grew.refl w6).alloc _)) (fun _ _ q => q.grew ((Grew.refl w6).alloc _)))
                  have HLoa := Lib.hid (own_alloc HLo6.out (.cells #[.int .i64 y.table, .int .i64 y.join, .slice AK y.keys.length cK, .slice AS2 y.scan.length cS2, .slice AR2 y.rest.length cR2] 72))
                  refine hK.out _ _ hSa ?_
                  clear hK K
                  refine last_call 10 (by kernel_rfl) (by kernel_rfl) rfl (by rfl) (fun K hK => ?_)
                  refine wp_appC (.tmp 142) (.tmp 150) 42 72 5 rfl W3.heap.size (.agg #[.int .i64 0, .int .i64 0, .slice none 0 0, .slice none 0 0, .slice none 0 0]) 88 Try.underlying42 infoLa rfl (by decide) (by decide) _ lts.length _ rfl HLoa.out _ 1 1 [.int .i64 y.table, .int .i64 y.join, .slice AK y.keys.length cK, .slice AS2 y.scan.length cS2, .slice AR2 y.rest.length cR2] rfl rfl (row_new w6 _ _ #[.int .i64 y.table, .int .i64 y.join, .slice AK y.keys.length cK, .slice AS2 y.scan.length cS2, .slice AR2 y.rest.length cR2] rfl) (by simp [Value.oneCell']) (by omega) HNa.out.size ?_
                  intro A8 c8 w8 ho8 hg8 hor8
                  have hbb := own_base HLoa.out
                  have hS8 : Blok w8 g 44 #[.int .i64 q3, .slice AS vs.length kS, vE, vR, .slice AL lts.length cL, vW] ∧ Blok w8 w.heap.size 29 (qyC it sr wh gr A k (some ⟨bf, of, none⟩) j C c D d) ∧ Grew w w8 := ⟨hSa.1.grown hg8 (fun e => by have := hbb g e; have := HNa.out.low; omega), hSa.2.1.grown hg8 (fun e => by have := hbb _ e; have := HNa.out.low; omega), hSa.2.2.grown hg8 (fun b hb' => by have := hbb b hb'; have := HNa.out.low; omega)⟩
                  have HNf := Lib.hid (HNa.out.putL HLoa.out hg8 (fun _ _ h => h) (.slice A8 (lts.length + 1) c8))
                  have HLf := Lib.hid (LaSl.put HLca.out HLoa.out HEa.out rfl ho8 hg8 HNa.out.low.2 (.slice A8 (lts.length + 1) c8))
                  refine hK.out _ _ hS8 ?_
                  clear hK K
                  refine last_take 11 (v := ?_) rfl (by kernel_rfl) (by kernel_rfl) (by kernel_rfl) (by kernel_rfl) (fun _ _ _ h => h) (by rfl) ?_ hS8 ?_
                  rotate_left
                  · (intro W hW; go_simp; with_reducible rfl)
                  refine last_norm (a' := ?_) ?_ ?_
                  rotate_left
                  · (go_simp; with_reducible rfl)
                  have z2 := hS8.1.thaw 4
                  have zc := hS8.1.cell 4
                  have zl := hS8.1.lt
                  simp at zc
                  refine last_last (by kernel_rfl) (by kernel_rfl) rfl (by rfl) (fun K hK => ?_)
                  go_simp
                  go_wp2_with fail
                  refine hK.out _ _ ?_
                  clear hK K hS8 hSa hS6 hS0 ho8 hg8 hor8 z2 zc zl hg6 hB6
                  go_wp2
                  exact ⟨⟨q2 + 1, _, by omega, by go_num, HNf.out, by rw [HLs.out]; exact HLf.out⟩, by simp only [intOf]; omega⟩
                · have hqe : q2 = sr.length - q3 := by omega
                  subst hqe
                  have hb2 : Blok wr (w.heap.size + 1) 44 #[.int .i64 0, .slice none 0 0, .slice none 0 0, .slice none 0 0, .slice none 0 0, .slice none 0 0] := (HN2.out.kept _ (by omega) (by omega)).trans (HB2'.out.grew HG6.out)
                  have hgb := HN2.out.blk
                  have hu2 : w.heap.size ≤ w.heap.size + 1 := by omega
                  have h2b : w.heap.size + 1 < W3.heap.size := by omega
                  generalize w.heap.size + 1 = b2 at *
                  obtain ⟨AE, cE, rfl, _⟩ := HN2.out.edges
                  obtain ⟨AR, cR, rfl, _⟩ := HN2.out.bins.each 0 vR _ rfl rfl
                  obtain ⟨AW, cW, rfl, _⟩ := HN2.out.bins.each 1 vW _ rfl rfl
                  obtain ⟨AL, cL, _, rfl, _, _⟩ := HL2.out
                  have gl : g < wr.heap.size := hgb.lt
                  have g0 := hgb.cell 0
                  have g1 := hgb.cell 1
                  have g2 := hgb.cell 2
                  have g3 := hgb.cell 3
                  have g4 := hgb.cell 4
                  have g5 := hgb.cell 5
                  have bl : b2 < wr.heap.size := hb2.lt
                  have z0 := hb2.thaw 0
                  have z1 := hb2.thaw 1
                  have z2 := hb2.thaw 2
                  have z3 := hb2.thaw 3
                  have z4 := hb2.thaw 4
                  have z5 := hb2.thaw 5
                  have y0 := hb2.cell 0
                  have y1 := hb2.cell 1
                  have y2 := hb2.cell 2
                  have y3 := hb2.cell 3
                  have y4 := hb2.cell 4
                  have y5 := hb2.cell 5
                  simp at g0 g1 g2 g3 g4 g5 y0 y1 y2 y3 y4 y5
                  have HBF := Lib.hid ((((((hb2.set 0 (.int .i64 q3)).set 1 (.slice AS vs.length kS)).set 2 (.slice AE (nE q3 l).length cE)).set 3 (.slice AR (nR q3 l).length cR)).set 4 (.slice AL (latesX sr q3 (sr.length - q3)).length cL)).set 5 (.slice AW (nW q3 l).length cW))
                  have HE : Hid (NormF w fin (.returned (.agg #[.int .i64 q3, .slice AS vs.length kS, .slice AE (nE q3 l).length cE, .slice AR (nR q3 l).length cR, .slice AL (latesX sr q3 (sr.length - q3)).length cL, .slice AW (nW q3 l).length cW])) ((((((wr.setCell ⟨b2, 0, none⟩ (.int .i64 q3)).setCell ⟨b2, 1, none⟩ (.slice AS vs.length kS)).setCell ⟨b2, 2, none⟩ (.slice AE (nE q3 l).length cE)).setCell ⟨b2, 3, none⟩ (.slice AR (nR q3 l).length cR)).setCell ⟨b2, 4, none⟩ (.slice AL (latesX sr q3 (sr.length - q3)).length cL)).setCell ⟨b2, 5, none⟩ (.slice AW (nW q3 l).length cW))) := Lib.hid (by
                    rw [← HF.out]
                    refine norm_done HN2.out HL2.out (fun i hi => ?_) ((((((HN2.out.grew.setCell hu2 _).setCell hu2 _).setCell hu2 _).setCell hu2 _).setCell hu2 _).setCell hu2 _)
                    have hn' : i ≠ b2 := by omega
                    rw [heap_set _ _ hn', heap_set _ _ hn', heap_set _ _ hn', heap_set _ _ hn', heap_set _ _ hn', heap_set _ _ hn'])
                  clear HN2 HL2 HF hgb hb2
                  generalize nE (q3 : Int) l = le at *
                  generalize nR (q3 : Int) l = lr at *
                  generalize nW (q3 : Int) l = lw at *
                  generalize latesX sr q3 (sr.length - q3) = lla at *
                  go_wp2
                  have y0 := HBF.out.cell 0
                  have y1 := HBF.out.cell 1
                  have y2 := HBF.out.cell 2
                  have y3 := HBF.out.cell 3
                  have y4 := HBF.out.cell 4
                  have y5 := HBF.out.cell 5
                  simp at y0 y1 y2 y3 y4 y5
                  refine bodyPost_ret (v := .agg #[.int .i64 q3, .slice AS vs.length kS, .slice AE le.length cE, .slice AR lr.length cR, .slice AL lla.length cL, .slice AW lw.length cW]) ?_ ?_ ?_
                  · simp [results, Try.results15, go_sem, y0, y1, y2, y3, y4, y5]
                  · rfl
                  · exact HE.out
end Go.Proofs.Ytchogpdfdpbpfaa

namespace Go.Proofs.Ytchogpdfdpbpfaa
open Go.RowKit

theorem fewE_of {l m : List Ex} (h : ∀ y ∈ m, y ∈ l) (hl : m.length ≤ l.length) (h1 : l.length ≤ 1000000) (h2 : ∀ y ∈ l, y.nodes ≤ 200) : fewE m :=
  ⟨by omega, fun y hy => Nat.le_trans (h2 y (h y hy)) (by decide)⟩
theorem few16 {sr : List Fr} {wh : Ex} (hs : sr.length ≤ 1000) (hn : ∀ f ∈ sr, f.on.nodes ≤ 200) (hw : wh.nodes ≤ 200) : fewN (normX sr wh) := by
  have hc := coreN_le sr
  have hp := allP_len sr hn (coreN sr)
  have hq := Nat.le_trans (partsX_len wh) hw
  have hl : (allX sr wh (coreN sr)).length ≤ 1000000 := by unfold allX; rw [List.length_append]; omega
  have hy : ∀ y ∈ allX sr wh (coreN sr), y.nodes ≤ 200 := fun y hy => by
    rcases List.mem_append.1 hy with hy | hy
    · exact allP_nodes sr hn _ y hy
    · exact Nat.le_trans (partsX_nodes wh y hy) hw
  have hf : ∀ p : Ex → Bool, fewE ((allX sr wh (coreN sr)).filter p) := fun p => fewE_of (fun y hy => (List.mem_filter.1 hy).1) (List.length_filter_le _ _) hl hy
  refine ⟨?_, ?_, ?_, hf _, ?_, ?_, hf _⟩
  · show (nS (coreN sr) _).length ≤ _
    rw [nS_len]
    omega
  · intro m hm
    change m ∈ nS (coreN sr) _ at hm
    obtain ⟨t, _, rfl⟩ := List.mem_map.1 hm
    exact hf _
  · show (nE _ _).length ≤ _
    unfold nE
    rw [List.length_map]
    exact (hf _).1
  · show (latesX _ _ _).length ≤ _
    rw [latesX_len]
    omega
  · intro y hm
    change y ∈ latesX _ _ _ at hm
    obtain ⟨i, hi, rfl⟩ := List.mem_map.1 hm
    have hi' : coreN sr + i < sr.length := by have := List.mem_range.1 hi; omega
    have hfr := hn _ (List.getElem_mem hi')
    have e : sr.getD (coreN sr + i) default = sr[coreN sr + i] := by simp [List.getD, hi']
    rw [e]
    have hpl := partsX_len sr[coreN sr + i].on
    have hpn : ∀ y ∈ partsX sr[coreN sr + i].on, y.nodes ≤ 200 := fun y hy => Nat.le_trans (partsX_nodes _ y hy) hfr
    have hg : ∀ p : Ex → Bool, fewE ((partsX sr[coreN sr + i].on).filter p) := fun p => fewE_of (fun y hy => (List.mem_filter.1 hy).1) (List.length_filter_le _ _) (by omega) hpn
    refine ⟨?_, hg _, hg _⟩
    show (ltK _ _).length ≤ _
    unfold ltK
    rw [List.length_map]
    exact (hg _).1
end Go.Proofs.Ytchogpdfdpbpfaa
