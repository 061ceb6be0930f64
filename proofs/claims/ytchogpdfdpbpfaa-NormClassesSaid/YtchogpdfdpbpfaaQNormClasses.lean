/- The statement NormClassesSaid: for every input the law returns true, and each argument reads as it did. No condition beyond the row's own. -/
import Derived.Test.YtchogpdfdpbpfaaQNb
import Derived.Test.YtchogpdfdpbpfaaTail
import Derived.Test.YtchogpdfdpbpfaaHead
import Derived.Test.YtchogpdfdpbpfaaTree11
import Derived.Lib.AppendZeros
import Derived.Test.YtchogpdfdpbpfaaUfN
import Derived.Test.YtchogpdfdpbpfaaQuery
import Derived.Test.YtchogpdfdpbpfaaFrame2

/- Layer 16: a condition is put where it belongs. Condition: a condition that lies in memory that is there. -/
namespace Go.Proofs.Ytchogpdfdpbpfaa
open Go.RowKit
attribute [local go_sem] more_cell more_frozen more_more more_setCell more_of_drew more_of_drewN lt_more le_more past_cell past_cell2 past_frozen past_frozen2 past_setCell past_setCell2 mid_cell mid_frozen mid_setCell
attribute [local go_sem ↓] Go.wp_at_zero Go.wp_at_succ

theorem setCell_comm (w : World) {a b : Addr} (x y : Value) (h : a.block ≠ b.block) : (w.setCell a x).setCell b y = (w.setCell b y).setCell a x := by
  unfold World.setCell
  simp only
  congr 1
  apply Array.ext_getElem?
  intro i
  simp only [Array.getElem?_modify]
  by_cases h1 : a.block = i
  · have h2 : ¬ b.block = i := fun e => h (h1.trans e.symm)
    simp [h1, h2]
  · by_cases h2 : b.block = i
    · simp [h1, h2]
    · simp [h1, h2]
theorem nine_comm (w : World) {g b j p : Nat} (h : g ≠ b) (x v0 v1 v2 v3 v4 v5 v6 v7 v8 : Value) :
    (((((((((w.setCell ⟨b, p, none⟩ v0).setCell ⟨b, p + 1, none⟩ v1).setCell ⟨b, p + 2, none⟩ v2).setCell ⟨b, p + 3, none⟩ v3).setCell ⟨b, p + 4, none⟩ v4).setCell ⟨b, p + 5, none⟩ v5).setCell ⟨b, p + 6, none⟩ v6).setCell ⟨b, p + 7, none⟩ v7).setCell ⟨b, p + 8, none⟩ v8).setCell ⟨g, j, none⟩ x =
    (((((((((w.setCell ⟨g, j, none⟩ x).setCell ⟨b, p, none⟩ v0).setCell ⟨b, p + 1, none⟩ v1).setCell ⟨b, p + 2, none⟩ v2).setCell ⟨b, p + 3, none⟩ v3).setCell ⟨b, p + 4, none⟩ v4).setCell ⟨b, p + 5, none⟩ v5).setCell ⟨b, p + 6, none⟩ v6).setCell ⟨b, p + 7, none⟩ v7).setCell ⟨b, p + 8, none⟩ v8 := by
  have e : ∀ (w : World) (q : Nat) (v : Value), (w.setCell ⟨b, q, none⟩ v).setCell ⟨g, j, none⟩ x = (w.setCell ⟨g, j, none⟩ x).setCell ⟨b, q, none⟩ v := fun w q v => setCell_comm w v x (Ne.symm h)
  rw [e, e, e, e, e, e, e, e, e]
theorem grown_set {w w' : World} {row : Option Nat} (h : w.grownBy w' row) {a : Addr} (ha : row = some a.block ∨ w.heap.size ≤ a.block) (x : Value) : w.grownBy (w'.setCell a x) row := by
  refine ⟨h.os, h.tape, h.output, by rw [World.size_setCell]; exact h.size, fun i hi hr => ?_⟩
  rw [heap_set _ _ (fun e => by
    rcases ha with ha | ha
    · exact hr (by rw [ha, e])
    · omega)]
  exact h.block i hi hr
theorem grown_nine {w w' : World} {row : Option Nat} {b p : Nat} (h : w.grownBy w' row) (ha : row = some b ∨ w.heap.size ≤ b) (v0 v1 v2 v3 v4 v5 v6 v7 v8 : Value) :
    w.grownBy (((((((((w'.setCell ⟨b, p, none⟩ v0).setCell ⟨b, p + 1, none⟩ v1).setCell ⟨b, p + 2, none⟩ v2).setCell ⟨b, p + 3, none⟩ v3).setCell ⟨b, p + 4, none⟩ v4).setCell ⟨b, p + 5, none⟩ v5).setCell ⟨b, p + 6, none⟩ v6).setCell ⟨b, p + 7, none⟩ v7).setCell ⟨b, p + 8, none⟩ v8) row :=
  grown_set (grown_set (grown_set (grown_set (grown_set (grown_set (grown_set (grown_set (grown_set h ha v0) ha v1) ha v2) ha v3) ha v4) ha v5) ha v6) ha v7) ha v8
theorem incore_any (t core : Int) (w : World) (g : Nat) (a1 a2 a3 a4 a5 : Value) (hb : Blok w g 44 #[.int .i64 core, a1, a2, a3, a4, a5]) :
    Gives Try.prog 43 #[.int .i64 t, .pointer (some ⟨g, 0, none⟩)] w (.bool (decide (0 ≤ t) && decide (t < core))) := by
  have c0 := hb.cell 0
  have hl := hb.lt
  simp at c0
  clear hb
  unfold Gives
  by_cases h1 : 0 ≤ t
  · by_cases h2 : t < core
    · rw [decide_eq_true h1, decide_eq_true h2]
      go_enter Try.func43, Try.ntmps43
      go_wp2
      go_ret
      exact ⟨rfl, by (show Grew _ _; repeat (first | exact Grew.refl _ | refine Grew.alloc ?_ _ | refine Grew.drew ?_ | refine Grew.more ?_ _))⟩
    · rw [decide_eq_true h1, decide_eq_false h2]
      go_enter Try.func43, Try.ntmps43
      go_wp2
      go_ret
      exact ⟨rfl, by (show Grew _ _; repeat (first | exact Grew.refl _ | refine Grew.alloc ?_ _ | refine Grew.drew ?_ | refine Grew.more ?_ _))⟩
  · rw [decide_eq_false h1, Bool.false_and]
    go_enter Try.func43, Try.ntmps43
    go_wp2
    go_ret
    exact ⟨rfl, by (show Grew _ _; repeat (first | exact Grew.refl _ | refine Grew.alloc ?_ _ | refine Grew.drew ?_ | refine Grew.more ?_ _))⟩
theorem row_grown2 {w w' : World} {row : Option Nat} {b o : Nat} {xs : List Value} (h : Row w (some ⟨b, o, none⟩) xs) (k : w.grownBy w' row) (hr : row ≠ some b) : Row w' (some ⟨b, o, none⟩) xs := by
  rcases h with h | ⟨b', o', hA, hlt, hc⟩
  · exact Or.inl h
  · injection hA with hA
    injection hA with h1 h2 _
    subst h1 h2
    refine Or.inr ⟨b, o, rfl, Nat.lt_of_lt_of_le hlt k.size, fun j u hu => ?_⟩
    rw [← hc j u hu]
    simp only [World.cell?, k.block b hlt (fun e => hr e.symm)]
theorem scan_kept {pr : Nat → Prop} {u v w w' : World} {base g : Nat} {core : Int} {sc : List (List Ex)} {es : List Ed} {rs wh : List Ex} {A : Option Addr} {k : Nat} {vs : List Value} {vE vR vL vW : Value} {cs ec : Array Value} {bx bu ou b0 n : Nat} {is : List Value} {vq : Value} {xs : List Value} {W0 : World}
    (h : Blok w g 44 cs ∧ Blok w bx 27 ec ∧ Row w (some ⟨bu, ou, none⟩) is ∧ w.ownsRow base 22 1 (.slice (some ⟨b0, 0, none⟩) vs.length k) vs.length vs) (hg : w.grownBy w' vq.ownBlock)
    (hn : Nst pr u v w base g core sc es rs wh A k vs vE vR vL vW) (ho : W0.ownsRow base 27 9 vq n xs) (hW : ∀ q, vq.ownBlock = some q → w.ownsRow base 27 9 vq n xs) (hl : ∀ i, vq.ownBlock = some i → i < bx) (hb : bx < bu) :
    Blok w' g 44 cs ∧ Blok w' bx 27 ec ∧ Row w' (some ⟨bu, ou, none⟩) is ∧ w'.ownsRow base 22 1 (.slice (some ⟨b0, 0, none⟩) vs.length k) vs.length vs := by
  have hbb := own_base ho
  have l2 := hn.low.2
  refine ⟨h.1.grown hg fun e => by have := hbb g e; omega, h.2.1.grown hg fun e => Nat.lt_irrefl _ (hl bx e), row_grown2 h.2.2.1 hg fun e => by have := hl bu e; omega, own_grown h.2.2.2 hg fun b hb' e => type_apart h.2.2.2 (hW b e.symm) (by decide) b hb' e.symm⟩
/-- One more condition has been put where it belongs. -/
def PutF (pr : Nat → Prop) (u v : World) (base g : Nat) (core : Nat) (AS : Option Addr) (kS : Nat) (vL : Value) (l : List Ex) (e : Ending) (w' : World) : Prop :=
  e = .returned (.tuple #[]) ∧ ∃ vs vE vR vW, Nst pr u v w' base g core (nS core l) (nE core l) (nR core l) (nW core l) AS kS vs vE vR vL vW
set_option maxHeartbeats 16000000 in
set_option maxRecDepth 100000 in
theorem put_any (x : Ex) (PA : Option Addr) (ka : Nat) (pr : Nat → Prop) (u v w : World) (base g core : Nat) (l : List Ex) (AS : Option Addr) (kS : Nat) (vs : List Value) (vE vR vL vW : Value) (hx : x.nodes ≤ 1000000) (hl : l.length ≤ 1000000) (ra : ExsR (PRow u) PA x.l)
    (hs : Nst pr u v w base g core (nS core l) (nE core l) (nR core l) (nW core l) AS kS vs vE vR vL vW) :
    Calls Try.prog 44 #[.pointer (some ⟨g, 0, none⟩), exV x PA ka, .func (.func 43) #[] #[.pointer (some ⟨g, 0, none⟩)]] w (PutF pr u v base g core AS kS vL (l ++ [x])) := by
  have HUs : Hid (∀ W, Grew u W → Calls Try.prog 11 #[exV x PA ka] W (OwnI W (useX x))) := Lib.hid fun W hW => uses_any x PA ka hx W (ra.grew hW)
  have HEd : Hid (∀ W, Grew u W → Gives Try.prog 9 #[exV x PA ka] W (.tuple #[edV (edgeP x).1, .bool (edgeP x).2])) := Lib.hid fun W hW => edge_any x PA ka W (ra.grew hW)
  have HPA := Lib.hid ra
  have hfl : ∀ p : Ex → Bool, (l.filter p).length ≤ 1000000 := fun p => Nat.le_trans (List.length_filter_le p l) hl
  have lR : (nR core l).length ≤ 1000000 := hfl _
  have lW : (nW core l).length ≤ 1000000 := hfl _
  have lE : (nE core l).length ≤ 1000000 := by unfold nE; rw [List.length_map]; exact hfl _
  have lT : ∀ t, (nT core t l).length ≤ 1000000 := fun t => hfl _
  have HFin : Hid (∀ W vs vE vR vW, Nst pr u v W base g core (nS core (l ++ [x])) (nE core (l ++ [x])) (nR core (l ++ [x])) (nW core (l ++ [x])) AS kS vs vE vR vL vW → PutF pr u v base g core AS kS vL (l ++ [x]) (.returned (.tuple #[])) W) := Lib.hid fun W vs vE vR vW h => ⟨rfl, vs, vE, vR, vW, h⟩
  have HW0 : Hid (whereI x core = 0 → ∀ W vs vE vR vW, Nst pr u v W base g core (nS core l) (nE core l) (nR core l ++ [x]) (nW core l) AS kS vs vE vR vL vW → Nst pr u v W base g core (nS core (l ++ [x])) (nE core (l ++ [x])) (nR core (l ++ [x])) (nW core (l ++ [x])) AS kS vs vE vR vL vW) := Lib.hid fun h W vs vE vR vW hn => by
    rw [nS_other core l (by omega), nE_snoc, nR_snoc, nW_snoc, if_neg (by omega), if_pos h, if_neg (by omega), List.append_nil, List.append_nil]
    exact hn
  have HW1 : Hid (whereI x core = 1 → ∀ W vs vE vR vW, Nst pr u v W base g core (nS core l) (nE core l) (nR core l) (nW core l ++ [x]) AS kS vs vE vR vL vW → Nst pr u v W base g core (nS core (l ++ [x])) (nE core (l ++ [x])) (nR core (l ++ [x])) (nW core (l ++ [x])) AS kS vs vE vR vL vW) := Lib.hid fun h W vs vE vR vW hn => by
    rw [nS_other core l (by omega), nE_snoc, nR_snoc, nW_snoc, if_neg (by omega), if_neg (by omega), if_pos h, List.append_nil, List.append_nil]
    exact hn
  have HW3 : Hid (whereI x core = 3 → ∀ W vs vE vR vW, Nst pr u v W base g core (nS core l) (nE core l ++ [(edgeP x).1]) (nR core l) (nW core l) AS kS vs vE vR vL vW → Nst pr u v W base g core (nS core (l ++ [x])) (nE core (l ++ [x])) (nR core (l ++ [x])) (nW core (l ++ [x])) AS kS vs vE vR vL vW) := Lib.hid fun h W vs vE vR vW hn => by
    rw [nS_other core l (by omega), nE_snoc, nR_snoc, nW_snoc, if_pos h, if_neg (by omega), if_neg (by omega), List.append_nil, List.append_nil]
    exact hn
  have HW2 : Hid (whereI x core = 2 → ∀ t : Nat, useX x = [(t : Int)] → ∀ W vs vE vR vW, Nst pr u v W base g core ((nS core l).set t (nT core t l ++ [x])) (nE core l) (nR core l) (nW core l) AS kS vs vE vR vL vW → Nst pr u v W base g core (nS core (l ++ [x])) (nE core (l ++ [x])) (nR core (l ++ [x])) (nW core (l ++ [x])) AS kS vs vE vR vL vW) := Lib.hid fun h t ht W vs vE vR vW hn => by
    rw [nS_scan core l h ht, nE_snoc, nR_snoc, nW_snoc, if_neg (by omega), if_neg (by omega), if_neg (by omega), List.append_nil, List.append_nil, List.append_nil]
    exact hn
  have HSat : Hid (∀ t : Nat, t < core → (nS core l)[t]? = some (nT core t l)) := Lib.hid fun t ht => nS_at core l ht
  have HSl : Hid ((nS core l).length = core) := Lib.hid (nS_len core l)
  have HRis := Lib.hid (setI_rising (x.cols.map Ex.t))
  have HEU : Hid ((edgeP x).2 = true → useX x ≠ []) := Lib.hid edge_uses
  have HWd : Hid (whereI x core = if outI (useX x) core then 1 else if (useX x).length = 1 then 2 else if (edgeP x).2 then 3 else 0) := Lib.hid rfl
  have hlu : (useX x).length ≤ 1000000 := Nat.le_trans (useX_len x) hx
  have HN := Lib.hid hs
  change Hid (Rising (useX x)) at HRis
  clear hs ra hfl
  generalize nS core l = sc at *
  generalize nE core l = es at *
  generalize nR core l = rs at *
  generalize nW core l = wh at *
  generalize whereI x core = wi at *
  generalize useX x = us at *
  generalize edgeP x = ed at *
  obtain ⟨⟨e1, e2, e3, e4⟩, is⟩ := ed
  simp only at HEU HWd HW3
  unfold exV edV at *
  go_enter Try.func44, Try.ntmps44
  go_upto_region 1 with fail
  have HS0 := Lib.hid (HN.out.more ((Grew.refl w).alloc (.cells #[.int .i64 x.op, .string x.tab, .string x.name, .int .i64 x.t, .int .i64 x.c, .int .i64 x.vk, .int .i64 x.vi, .string x.vs, .slice PA x.l.length ka] 27)))
  have HB0 : Hid (Blok (w.alloc (.cells #[.int .i64 x.op, .string x.tab, .string x.name, .int .i64 x.t, .int .i64 x.c, .int .i64 x.vk, .int .i64 x.vi, .string x.vs, .slice PA x.l.length ka] 27)) w.heap.size 27 #[.int .i64 x.op, .string x.tab, .string x.name, .int .i64 x.t, .int .i64 x.c, .int .i64 x.vk, .int .i64 x.vi, .string x.vs, .slice PA x.l.length ka]) := Lib.hid (Blok.new _ _ _ _ rfl)
  have hbx0 : w.heap.size < (w.alloc (.cells #[.int .i64 x.op, .string x.tab, .string x.name, .int .i64 x.t, .int .i64 x.c, .int .i64 x.vk, .int .i64 x.vi, .string x.vs, .slice PA x.l.length ka] 27)).heap.size := HB0.out.lt
  have hbxg : base ≤ w.heap.size := HN.out.size
  have HLR : Hid (∀ i, vR.ownBlock = some i → i < w.heap.size) := Lib.hid (by obtain ⟨_, _, h⟩ := (HN.out.bins.each 0 vR rs rfl rfl).own; exact own_lt h)
  have HLW : Hid (∀ i, vW.ownBlock = some i → i < w.heap.size) := Lib.hid (by obtain ⟨_, _, h⟩ := (HN.out.bins.each 1 vW wh rfl rfl).own; exact own_lt h)
  have HLE : Hid (∀ i, vE.ownBlock = some i → i < w.heap.size) := Lib.hid (by obtain ⟨_, _, rfl, h⟩ := HN.out.edges; exact own_lt h)
  have HLS : Hid (∀ (q : Nat) (vq : Value) (lq : List Ex), vs[q]? = some vq → sc[q]? = some lq → ∀ i, vq.ownBlock = some i → i < w.heap.size) := Lib.hid (fun q vq lq hv hq => by obtain ⟨_, _, h⟩ := (HN.out.bins.each (q + 2) vq lq (by simpa using hv) (by simpa using hq)).own; exact own_lt h)
  clear HN
  generalize (w.alloc (.cells #[.int .i64 x.op, .string x.tab, .string x.name, .int .i64 x.t, .int .i64 x.c, .int .i64 x.vk, .int .i64 x.vi, .string x.vs, .slice PA x.l.length ka] 27)) = W0 at *
  generalize w.heap.size = bx at *
  obtain ⟨q0, s0, s1, s2, s3, s4, s5, s6, s7, s8⟩ := blok9c HB0.out
  go_upto_region 2 with (go_at_call 11; (with_reducible refine (HUs.out _ HS0.out.grew).mono ?_); rintro e W6 ⟨B6, c6, rfl, hg6, ho6⟩; have HS6 := Lib.hid (HS0.out.more hg6); have HB6 := Lib.hid (HB0.out.grew hg6); have HR6 : Hid (Row W6 B6 (iV us)) := Lib.hid (own_rowI ho6); have HUo : Hid (∀ i, (Value.slice B6 us.length c6).ownBlock = some i → bx < i) := Lib.hid (fun i hi => Nat.lt_of_lt_of_le hbx0 (own_base ho6 i hi)); clear hg6 ho6)
  clear HS0 HB0 q0 s0 s1 s2 s3 s4 s5 s6 s7 s8 HUs
  obtain ⟨q0, s0, s1, s2, s3, s4, s5, s6, s7, s8⟩ := blok9c HB6.out
  go_upto_region 4 with (go_at_call 9; (with_reducible refine (HEd.out _ HS6.out.grew).grows.mono ?_); rintro e W8 ⟨rfl, hg8⟩; have HG8 := Lib.hid hg8; clear hg8)
  have HS := Lib.hid ((HS6.out.more HG8.out).more ((Grew.refl W8).alloc (.cells #[.int .i64 e1, .int .i64 e2, .int .i64 e3, .int .i64 e4] 34)))
  have HBX := Lib.hid ((HB6.out.grew HG8.out).grew ((Grew.refl W8).alloc (.cells #[.int .i64 e1, .int .i64 e2, .int .i64 e3, .int .i64 e4] 34)))
  have HRU := Lib.hid ((HR6.out.grew HG8.out).grew ((Grew.refl W8).alloc (.cells #[.int .i64 e1, .int .i64 e2, .int .i64 e3, .int .i64 e4] 34)))
  have HBE : Hid (Blok (W8.alloc (.cells #[.int .i64 e1, .int .i64 e2, .int .i64 e3, .int .i64 e4] 34)) W8.heap.size 34 #[.int .i64 e1, .int .i64 e2, .int .i64 e3, .int .i64 e4]) := Lib.hid (Blok.new _ _ _ _ rfl)
  have hbe : bx < W8.heap.size := (HB6.out.grew HG8.out).lt
  clear HS6 HB6 HR6 q0 s0 s1 s2 s3 s4 s5 s6 s7 s8 HG8 HEd
  generalize (W8.alloc (.cells #[.int .i64 e1, .int .i64 e2, .int .i64 e3, .int .i64 e4] 34)) = W at *
  generalize W8.heap.size = be at *
  have hul := HS.out.low.1
  have hgb := HS.out.low.2
  by_cases h0 : us = []
  · subst h0
    have his : is = false := by
      cases is
      · rfl
      · exact absurd rfl (HEU.out rfl)
    subst his
    have hwi : wi = 0 := by rw [HWd.out]; simp [outI]
    subst hwi
    have HWp := Lib.hid (HW0.out rfl)
    clear HW0 HW1 HW2 HW3 HWd HEU HRis HSat HSl HRU lE lT lW
    go_upto_region 5 with fail
    obtain ⟨AN, cN, hvN, css, hcs, hoN⟩ := HS.out.bins.each 0 vR rs rfl rfl
    subst hvN
    have HCS := Lib.hid hcs
    have HON := Lib.hid hoN
    have hlen := hcs.flat
    clear hcs hoN
    have HD := Lib.hid (HS.out.more (Grew.refl W).drew)
    have hS0 : Blok W.drew g 44 #[.int .i64 core, .slice AS vs.length kS, vE, (.slice AN rs.length cN), vL, vW] ∧ Blok W.drew bx 27 #[.int .i64 x.op, .string x.tab, .string x.name, .int .i64 x.t, .int .i64 x.c, .int .i64 x.vk, .int .i64 x.vi, .string x.vs, .slice PA x.l.length ka] := ⟨HD.out.blk, HBX.out.grew (Grew.refl W).drew⟩
    refine wp_region_tail (fun W => Blok W g 44 #[.int .i64 core, .slice AS vs.length kS, vE, (.slice AN rs.length cN), vL, vW] ∧ Blok W bx 27 #[.int .i64 x.op, .string x.tab, .string x.name, .int .i64 x.t, .int .i64 x.c, .int .i64 x.vk, .int .i64 x.vi, .string x.vs, .slice PA x.l.length ka]) 8 5 rfl (by kernel_rfl) ?_
    refine tail_take 0 (v := ?_) rfl (by kernel_rfl) (by kernel_rfl) (by kernel_rfl) (by kernel_rfl) (fun _ _ _ h => h) (by rfl) ?_ hS0 ?_
    rotate_left
    · (intro W hW; go_simp; with_reducible rfl)
    refine tail_norm (a' := ?_) ?_ ?_
    rotate_left
    · (go_simp; with_reducible rfl)
    refine tail_take 1 (v := ?_) rfl (by kernel_rfl) (by kernel_rfl) (by kernel_rfl) (by kernel_rfl) (fun _ _ _ h => h) (by rfl) ?_ hS0 ?_
    rotate_left
    · (intro W hW; go_simp; with_reducible rfl)
    refine tail_norm (a' := ?_) ?_ ?_
    rotate_left
    · (go_simp; with_reducible rfl)
    refine tail_take 2 (v := ?_) rfl (by kernel_rfl) (by kernel_rfl) (by kernel_rfl) (by kernel_rfl) (fun _ _ _ h => h) (by rfl) ?_ hS0 ?_
    rotate_left
    · (intro W hW; go_simp; with_reducible rfl)
    refine tail_norm (a' := ?_) ?_ ?_
    rotate_left
    · (go_simp; with_reducible rfl)
    refine tail_take 3 (v := ?_) rfl (by kernel_rfl) (by kernel_rfl) (by kernel_rfl) (by kernel_rfl) (fun _ _ _ h => h) (by rfl) ?_ hS0 ?_
    rotate_left
    · (intro W hW; have q := hW.1.cell 3; have ql := hW.1.lt; simp at q; go_simp; with_reducible rfl)
    refine tail_norm (a' := ?_) ?_ ?_
    rotate_left
    · (go_simp; with_reducible rfl)
    refine tail_take 4 (v := ?_) rfl (by kernel_rfl) (by kernel_rfl) (by kernel_rfl) (by kernel_rfl) (fun _ _ _ h => h) (by rfl) ?_ hS0 ?_
    rotate_left
    · (intro W hW; obtain ⟨ql, q0, q1, q2, q3, q4, q5, q6, q7, q8⟩ := blok9c hW.2; go_simp; with_reducible rfl)
    refine tail_norm (a' := ?_) ?_ ?_
    rotate_left
    · (go_simp; with_reducible rfl)
    refine tail_take 5 (v := ?_) rfl (by kernel_rfl) (by kernel_rfl) (by kernel_rfl) (by kernel_rfl) (fun _ _ _ h => h) (by rfl) ?_ hS0 ?_
    rotate_left
    · (intro W hW; go_simp; with_reducible rfl)
    refine tail_norm (a' := ?_) ?_ ?_
    rotate_left
    · (go_simp; with_reducible rfl)
    refine tail_call 6 (by kernel_rfl) (by kernel_rfl) rfl (by rfl) (fun K hK => ?_)
    go_simp
    go_wp2_with fail
    have HDa := Lib.hid (HD.out.more ((Grew.refl W.drew).alloc (.cells #[.int .i64 0, .string ⟨#[]⟩, .string ⟨#[]⟩, .int .i64 0, .int .i64 0, .int .i64 0, .int .i64 0, .string ⟨#[]⟩, .slice none 0 0] 27)))
    have hSa : Blok (W.drew.alloc (.cells #[.int .i64 0, .string ⟨#[]⟩, .string ⟨#[]⟩, .int .i64 0, .int .i64 0, .int .i64 0, .int .i64 0, .string ⟨#[]⟩, .slice none 0 0] 27)) g 44 #[.int .i64 core, .slice AS vs.length kS, vE, (.slice AN rs.length cN), vL, vW] ∧ Blok (W.drew.alloc (.cells #[.int .i64 0, .string ⟨#[]⟩, .string ⟨#[]⟩, .int .i64 0, .int .i64 0, .int .i64 0, .int .i64 0, .string ⟨#[]⟩, .slice none 0 0] 27)) bx 27 #[.int .i64 x.op, .string x.tab, .string x.name, .int .i64 x.t, .int .i64 x.c, .int .i64 x.vk, .int .i64 x.vi, .string x.vs, .slice PA x.l.length ka] := ⟨HDa.out.blk, hS0.2.alloc _⟩
    refine hK.out _ _ hSa ?_
    clear hK K
    refine tail_call 7 (by kernel_rfl) (by kernel_rfl) rfl (by rfl) (fun K hK => ?_)
    refine wp_appC (.tmp 34) (.tmp 37) 22 27 9 rfl base (.agg #[.int .i64 0, .string ⟨#[]⟩, .string ⟨#[]⟩, .int .i64 0, .int .i64 0, .int .i64 0, .int .i64 0, .string ⟨#[]⟩, .slice none 0 0]) 112 Try.underlying22 infoE rfl (by decide) (by decide) _ rs.length _ rfl (own_alloc (own_grewE HON.out (Grew.refl W).drew) _) _ 1 1 [.int .i64 0, .string ⟨#[]⟩, .string ⟨#[]⟩, .int .i64 0, .int .i64 0, .int .i64 0, .int .i64 0, .string ⟨#[]⟩, .slice none 0 0] rfl rfl (row_new W.drew _ _ #[.int .i64 0, .string ⟨#[]⟩, .string ⟨#[]⟩, .int .i64 0, .int .i64 0, .int .i64 0, .int .i64 0, .string ⟨#[]⟩, .slice none 0 0] rfl) (by intro u hu; simp only [List.mem_cons, List.not_mem_nil, or_false] at hu; rcases hu with rfl | rfl | rfl | rfl | rfl | rfl | rfl | rfl | rfl <;> rfl) (by omega) HDa.out.size ?_
    intro A6 c6 w6 ho6 hg6 hor6
    have hbb := own_base HON.out
    have hbx2 : (Value.slice AN rs.length cN).ownBlock ≠ some bx := fun e => Nat.lt_irrefl _ (HLR.out bx e)
    have hS6 : Blok w6 g 44 #[.int .i64 core, .slice AS vs.length kS, vE, (.slice AN rs.length cN), vL, vW] ∧ Blok w6 bx 27 #[.int .i64 x.op, .string x.tab, .string x.name, .int .i64 x.t, .int .i64 x.c, .int .i64 x.vk, .int .i64 x.vi, .string x.vs, .slice PA x.l.length ka] := ⟨hSa.1.grown hg6 (fun e => by have := hbb g e; omega), hSa.2.grown hg6 hbx2⟩
    refine hK.out _ _ hS6 ?_
    clear hK K
    refine tail_done (by kernel_rfl) ?_
    obtain ⟨gb, cap, hv, hgb1, hgb2⟩ := World.ownsRow.form ho6 (by omega)
    injection hv with hv1 _ hv3
    subst hv1 hv3
    have hlt1 : (rs.length : Int) < (rs.length : Int) + 1 := by omega
    refine wpAny_take (i := 8) (v := ?_) rfl (by kernel_rfl) (by kernel_rfl) (by kernel_rfl) (fun _ _ _ h => h) (Or.inl ⟨by rfl, ?_⟩) ?_
    rotate_left
    · (intro w; go_simp; with_reducible rfl)
    refine wpAny_take (i := 10) (v := ?_) rfl (by kernel_rfl) (by kernel_rfl) (by kernel_rfl) (fun _ _ _ h => h) (Or.inl ⟨by rfl, ?_⟩) ?_
    rotate_left
    · (intro w; go_simp; with_reducible rfl)
    refine wpAny_take (i := 11) (v := ?_) rfl (by kernel_rfl) (by kernel_rfl) (by kernel_rfl) (fun _ _ _ h => h) (Or.inl ⟨by rfl, ?_⟩) ?_
    rotate_left
    · (intro w; go_simp; with_reducible rfl)
    have z0 := ho6.frozenAt (rs.length * 9)
    have z1 := ho6.frozenAt (rs.length * 9 + 1)
    have z2 := ho6.frozenAt (rs.length * 9 + 2)
    have z3 := ho6.frozenAt (rs.length * 9 + 3)
    have z4 := ho6.frozenAt (rs.length * 9 + 4)
    have z5 := ho6.frozenAt (rs.length * 9 + 5)
    have z6 := ho6.frozenAt (rs.length * 9 + 6)
    have z7 := ho6.frozenAt (rs.length * 9 + 7)
    have z8 := ho6.frozenAt (rs.length * 9 + 8)
    obtain ⟨q0, q1, q2, q3, q4, q5, q6, q7, q8⟩ := cells_nine ho6 hlen (by omega)
    have hcz := hS6.1.thaw 3
    have hcc := hS6.1.cell 3
    simp at hcc
    have hcl := hS6.1.lt
    have hggb : g ≠ gb := by omega
    have HB6 := Lib.hid hS6.1
    have HO7 := Lib.hid (own_nine ho6 hlen (.int .i64 x.op) (.string x.tab) (.string x.name) (.int .i64 x.t) (.int .i64 x.c) (.int .i64 x.vk) (.int .i64 x.vi) (.string x.vs) (.slice PA x.l.length ka))
    have HG7 := Lib.hid (grown_nine (p := rs.length * 9) hg6 (hor6.elim (fun h => Or.inl h.symm) (fun h => Or.inr (by cases h; exact Nat.le_refl _))) (.int .i64 x.op) (.string x.tab) (.string x.name) (.int .i64 x.t) (.int .i64 x.c) (.int .i64 x.vk) (.int .i64 x.vi) (.string x.vs) (.slice PA x.l.length ka))
    have HSf := Lib.hid (HDa.out.putR HCS.out HPA.out (x := x) (ka := ka) HO7.out HG7.out hor6)
    have HB7 := Lib.hid (HB6.out.nine (p := rs.length * 9) hggb (.int .i64 x.op) (.string x.tab) (.string x.name) (.int .i64 x.t) (.int .i64 x.c) (.int .i64 x.vk) (.int .i64 x.vi) (.string x.vs) (.slice PA x.l.length ka))
    have HCm := Lib.hid (nine_comm w6 (g := g) (b := gb) (j := 3) (p := rs.length * 9) hggb (.slice (some ⟨gb, 0, none⟩) (rs.length + 1) c6) (.int .i64 x.op) (.string x.tab) (.string x.name) (.int .i64 x.t) (.int .i64 x.c) (.int .i64 x.vk) (.int .i64 x.vi) (.string x.vs) (.slice PA x.l.length ka))
    clear hS0 hSa hS6 HD HDa HON HO7 HG7 HBX hbb hbx2 hor6 hg6 HS
    refine wpAny_ready (rs := [9, 12]) (by kernel_rfl) (by simp) ?_
    refine AllReady.cons rfl (fun K hK => ?_) (AllReady.cons rfl (fun K hK => ?_) AllReady.nil)
    · have HK := Lib.hid hK
      clear hK
      go_simp
      refine HK.out _ _ ?_
      clear HK K z0 z1 z2 z3 z4 z5 z6 z7 z8 q0 q1 q2 q3 q4 q5 q6 q7 q8 hcz hcc hcl HCm ho6 HB6
      generalize (((((((((w6.setCell ⟨gb, rs.length * 9, none⟩ (.int .i64 x.op)).setCell ⟨gb, rs.length * 9 + 1, none⟩ (.string x.tab)).setCell ⟨gb, rs.length * 9 + 2, none⟩ (.string x.name)).setCell ⟨gb, rs.length * 9 + 3, none⟩ (.int .i64 x.t)).setCell ⟨gb, rs.length * 9 + 4, none⟩ (.int .i64 x.c)).setCell ⟨gb, rs.length * 9 + 5, none⟩ (.int .i64 x.vk)).setCell ⟨gb, rs.length * 9 + 6, none⟩ (.int .i64 x.vi)).setCell ⟨gb, rs.length * 9 + 7, none⟩ (.string x.vs)).setCell ⟨gb, rs.length * 9 + 8, none⟩ (.slice PA x.l.length ka)) = W7 at *
      have hcz := HB7.out.thaw 3
      have hcc := HB7.out.cell 3
      simp at hcc
      have hcl := HB7.out.lt
      refine wpAny_ready (rs := [12]) (by kernel_rfl) (by simp) ?_
      refine AllReady.cons rfl (fun K hK => ?_) AllReady.nil
      have HK := Lib.hid hK
      clear hK
      go_simp
      refine HK.out _ _ ?_
      clear HK K
      refine ⟨by kernel_rfl, ?_⟩
      have HF := Lib.hid (HFin.out _ _ _ _ _ (HWp.out _ _ _ _ _ HSf.out))
      clear HSf HFin hcz hcc hcl HB7
      go_wp2
      first | go_end0 | skip
      exact HF.out
    · have HK := Lib.hid hK
      clear hK
      go_simp
      refine HK.out _ _ ?_
      clear HK K z0 z1 z2 z3 z4 z5 z6 z7 z8 q0 q1 q2 q3 q4 q5 q6 q7 q8
      have HO8 := Lib.hid (ownsRow_setCell_below ho6 (a := ⟨g, 3, none⟩) hgb (.slice (some ⟨gb, 0, none⟩) (rs.length + 1) c6))
      have HF := Lib.hid (HFin.out _ _ _ _ _ (HWp.out _ _ _ _ _ HSf.out))
      have HF2 : Hid (PutF pr u v base g core AS kS vL (l ++ [x]) (.returned (.tuple #[])) _) := Lib.hid (HCm.out ▸ HF.out)
      clear HF HSf HFin hcz hcc hcl HB7 HB6 HCm ho6
      generalize (w6.setCell ⟨g, 3, none⟩ (.slice (some ⟨gb, 0, none⟩) (rs.length + 1) c6)) = W8 at *
      have z0 := HO8.out.frozenAt (rs.length * 9)
      have z1 := HO8.out.frozenAt (rs.length * 9 + 1)
      have z2 := HO8.out.frozenAt (rs.length * 9 + 2)
      have z3 := HO8.out.frozenAt (rs.length * 9 + 3)
      have z4 := HO8.out.frozenAt (rs.length * 9 + 4)
      have z5 := HO8.out.frozenAt (rs.length * 9 + 5)
      have z6 := HO8.out.frozenAt (rs.length * 9 + 6)
      have z7 := HO8.out.frozenAt (rs.length * 9 + 7)
      have z8 := HO8.out.frozenAt (rs.length * 9 + 8)
      obtain ⟨q0, q1, q2, q3, q4, q5, q6, q7, q8⟩ := cells_nine HO8.out hlen (by omega)
      have hgl8 : gb < W8.heap.size := own_lt HO8.out gb rfl
      refine wpAny_ready (rs := [9]) (by kernel_rfl) (by simp) ?_
      refine AllReady.cons rfl (fun K hK => ?_) AllReady.nil
      have HK := Lib.hid hK
      clear hK
      go_simp
      refine HK.out _ _ ?_
      clear HK K
      refine ⟨by kernel_rfl, ?_⟩
      clear z0 z1 z2 z3 z4 z5 z6 z7 z8 q0 q1 q2 q3 q4 q5 q6 q7 q8 HO8
      generalize (((((((((W8.setCell ⟨gb, rs.length * 9, none⟩ (.int .i64 x.op)).setCell ⟨gb, rs.length * 9 + 1, none⟩ (.string x.tab)).setCell ⟨gb, rs.length * 9 + 2, none⟩ (.string x.name)).setCell ⟨gb, rs.length * 9 + 3, none⟩ (.int .i64 x.t)).setCell ⟨gb, rs.length * 9 + 4, none⟩ (.int .i64 x.c)).setCell ⟨gb, rs.length * 9 + 5, none⟩ (.int .i64 x.vk)).setCell ⟨gb, rs.length * 9 + 6, none⟩ (.int .i64 x.vi)).setCell ⟨gb, rs.length * 9 + 7, none⟩ (.string x.vs)).setCell ⟨gb, rs.length * 9 + 8, none⟩ (.slice PA x.l.length ka)) = W9 at *
      go_wp2
      first | go_end0 | skip
      exact HF2.out
  · obtain ⟨n, hn⟩ : ∃ n, us.length = n + 1 := ⟨us.length - 1, by have := List.length_pos_iff.2 h0; omega⟩
    have hn0 : 0 < us.length := by omega
    have hend := outI_ends HRis.out hn0 core
    have hnn : us.length - 1 = n := by omega
    simp only [hnn] at hend
    have hnl : n < us.length := by omega
    have hn6 : n ≤ 1000000 := by omega
    obtain ⟨bu, ou, rfl, hbu, hc0⟩ := rowI_at HRU.out hn0
    obtain ⟨bu', ou', hbo, _, hcn⟩ := rowI_at HRU.out hnl
    injection hbo with hbo
    injection hbo with hbo1 hbo2 _
    subst hbo1 hbo2
    rw [Nat.add_zero] at hc0
    have HI0 := Lib.hid (fun W h => incore_any us[0] core W g (.slice AS vs.length kS) vE vR vL vW h)
    have HI1 := Lib.hid (fun W h => incore_any us[n] core W g (.slice AS vs.length kS) vE vR vL vW h)
    by_cases hb0 : (decide ((0 : Int) ≤ us[0]) && decide (us[0] < (core : Int))) = true
    rotate_left
    · have hb0' : (decide ((0 : Int) ≤ us[0]) && decide (us[0] < (core : Int))) = false := by simpa using hb0
      have hwi : wi = 1 := by rw [HWd.out, hend, hb0']; simp
      subst hwi
      rw [hb0'] at HI0
      have HWp := Lib.hid (HW1.out rfl)
      clear HW0 HW1 HW2 HW3 HWd HEU HRis HSat HSl HRU lE lT lR hb0 hb0' hend hcn HI1
      rw [hn]
      generalize us[0] = y0 at *
      go_upto_region 7 with (go_at_call 43; (with_reducible refine (HI0.out _ HS.out.blk).grows.mono ?_); rintro e W ⟨rfl, hgn⟩; have HS := Lib.hid (HS.out.more hgn); have HBX := Lib.hid (HBX.out.grew hgn); clear hgn)
      go_upto_region 7 with fail
      obtain ⟨AN, cN, hvN, css, hcs, hoN⟩ := HS.out.bins.each 1 vW wh rfl rfl
      subst hvN
      have HCS := Lib.hid hcs
      have HON := Lib.hid hoN
      have hlen := hcs.flat
      clear hcs hoN
      have HD := Lib.hid (HS.out.more (Grew.refl W).drew)
      have hS0 : Blok W.drew g 44 #[.int .i64 core, .slice AS vs.length kS, vE, vR, vL, (.slice AN wh.length cN)] ∧ Blok W.drew bx 27 #[.int .i64 x.op, .string x.tab, .string x.name, .int .i64 x.t, .int .i64 x.c, .int .i64 x.vk, .int .i64 x.vi, .string x.vs, .slice PA x.l.length ka] := ⟨HD.out.blk, HBX.out.grew (Grew.refl W).drew⟩
      refine wp_region_tail (fun W => Blok W g 44 #[.int .i64 core, .slice AS vs.length kS, vE, vR, vL, (.slice AN wh.length cN)] ∧ Blok W bx 27 #[.int .i64 x.op, .string x.tab, .string x.name, .int .i64 x.t, .int .i64 x.c, .int .i64 x.vk, .int .i64 x.vi, .string x.vs, .slice PA x.l.length ka]) 8 5 rfl (by kernel_rfl) ?_
      refine tail_take 0 (v := ?_) rfl (by kernel_rfl) (by kernel_rfl) (by kernel_rfl) (by kernel_rfl) (fun _ _ _ h => h) (by rfl) ?_ hS0 ?_
      rotate_left
      · (intro W hW; go_simp; with_reducible rfl)
      refine tail_norm (a' := ?_) ?_ ?_
      rotate_left
      · (go_simp; with_reducible rfl)
      refine tail_take 1 (v := ?_) rfl (by kernel_rfl) (by kernel_rfl) (by kernel_rfl) (by kernel_rfl) (fun _ _ _ h => h) (by rfl) ?_ hS0 ?_
      rotate_left
      · (intro W hW; go_simp; with_reducible rfl)
      refine tail_norm (a' := ?_) ?_ ?_
      rotate_left
      · (go_simp; with_reducible rfl)
      refine tail_take 2 (v := ?_) rfl (by kernel_rfl) (by kernel_rfl) (by kernel_rfl) (by kernel_rfl) (fun _ _ _ h => h) (by rfl) ?_ hS0 ?_
      rotate_left
      · (intro W hW; go_simp; with_reducible rfl)
      refine tail_norm (a' := ?_) ?_ ?_
      rotate_left
      · (go_simp; with_reducible rfl)
      refine tail_take 3 (v := ?_) rfl (by kernel_rfl) (by kernel_rfl) (by kernel_rfl) (by kernel_rfl) (fun _ _ _ h => h) (by rfl) ?_ hS0 ?_
      rotate_left
      · (intro W hW; have q := hW.1.cell 5; have ql := hW.1.lt; simp at q; go_simp; with_reducible rfl)
      refine tail_norm (a' := ?_) ?_ ?_
      rotate_left
      · (go_simp; with_reducible rfl)
      refine tail_take 4 (v := ?_) rfl (by kernel_rfl) (by kernel_rfl) (by kernel_rfl) (by kernel_rfl) (fun _ _ _ h => h) (by rfl) ?_ hS0 ?_
      rotate_left
      · (intro W hW; obtain ⟨ql, q0, q1, q2, q3, q4, q5, q6, q7, q8⟩ := blok9c hW.2; go_simp; with_reducible rfl)
      refine tail_norm (a' := ?_) ?_ ?_
      rotate_left
      · (go_simp; with_reducible rfl)
      refine tail_take 5 (v := ?_) rfl (by kernel_rfl) (by kernel_rfl) (by kernel_rfl) (by kernel_rfl) (fun _ _ _ h => h) (by rfl) ?_ hS0 ?_
      rotate_left
      · (intro W hW; go_simp; with_reducible rfl)
      refine tail_norm (a' := ?_) ?_ ?_
      rotate_left
      · (go_simp; with_reducible rfl)
      refine tail_call 6 (by kernel_rfl) (by kernel_rfl) rfl (by rfl) (fun K hK => ?_)
      go_simp
      go_wp2_with fail
      have HDa := Lib.hid (HD.out.more ((Grew.refl W.drew).alloc (.cells #[.int .i64 0, .string ⟨#[]⟩, .string ⟨#[]⟩, .int .i64 0, .int .i64 0, .int .i64 0, .int .i64 0, .string ⟨#[]⟩, .slice none 0 0] 27)))
      have hSa : Blok (W.drew.alloc (.cells #[.int .i64 0, .string ⟨#[]⟩, .string ⟨#[]⟩, .int .i64 0, .int .i64 0, .int .i64 0, .int .i64 0, .string ⟨#[]⟩, .slice none 0 0] 27)) g 44 #[.int .i64 core, .slice AS vs.length kS, vE, vR, vL, (.slice AN wh.length cN)] ∧ Blok (W.drew.alloc (.cells #[.int .i64 0, .string ⟨#[]⟩, .string ⟨#[]⟩, .int .i64 0, .int .i64 0, .int .i64 0, .int .i64 0, .string ⟨#[]⟩, .slice none 0 0] 27)) bx 27 #[.int .i64 x.op, .string x.tab, .string x.name, .int .i64 x.t, .int .i64 x.c, .int .i64 x.vk, .int .i64 x.vi, .string x.vs, .slice PA x.l.length ka] := ⟨HDa.out.blk, hS0.2.alloc _⟩
      refine hK.out _ _ hSa ?_
      clear hK K
      refine tail_call 7 (by kernel_rfl) (by kernel_rfl) rfl (by rfl) (fun K hK => ?_)
      refine wp_appC (.tmp 63) (.tmp 66) 22 27 9 rfl base (.agg #[.int .i64 0, .string ⟨#[]⟩, .string ⟨#[]⟩, .int .i64 0, .int .i64 0, .int .i64 0, .int .i64 0, .string ⟨#[]⟩, .slice none 0 0]) 112 Try.underlying22 infoE rfl (by decide) (by decide) _ wh.length _ rfl (own_alloc (own_grewE HON.out (Grew.refl W).drew) _) _ 1 1 [.int .i64 0, .string ⟨#[]⟩, .string ⟨#[]⟩, .int .i64 0, .int .i64 0, .int .i64 0, .int .i64 0, .string ⟨#[]⟩, .slice none 0 0] rfl rfl (row_new W.drew _ _ #[.int .i64 0, .string ⟨#[]⟩, .string ⟨#[]⟩, .int .i64 0, .int .i64 0, .int .i64 0, .int .i64 0, .string ⟨#[]⟩, .slice none 0 0] rfl) (by intro u hu; simp only [List.mem_cons, List.not_mem_nil, or_false] at hu; rcases hu with rfl | rfl | rfl | rfl | rfl | rfl | rfl | rfl | rfl <;> rfl) (by omega) HDa.out.size ?_
      intro A6 c6 w6 ho6 hg6 hor6
      have hbb := own_base HON.out
      have hbx2 : (Value.slice AN wh.length cN).ownBlock ≠ some bx := fun e => Nat.lt_irrefl _ (HLW.out bx e)
      have hS6 : Blok w6 g 44 #[.int .i64 core, .slice AS vs.length kS, vE, vR, vL, (.slice AN wh.length cN)] ∧ Blok w6 bx 27 #[.int .i64 x.op, .string x.tab, .string x.name, .int .i64 x.t, .int .i64 x.c, .int .i64 x.vk, .int .i64 x.vi, .string x.vs, .slice PA x.l.length ka] := ⟨hSa.1.grown hg6 (fun e => by have := hbb g e; omega), hSa.2.grown hg6 hbx2⟩
      refine hK.out _ _ hS6 ?_
      clear hK K
      refine tail_done (by kernel_rfl) ?_
      obtain ⟨gb, cap, hv, hgb1, hgb2⟩ := World.ownsRow.form ho6 (by omega)
      injection hv with hv1 _ hv3
      subst hv1 hv3
      have hlt1 : (wh.length : Int) < (wh.length : Int) + 1 := by omega
      refine wpAny_take (i := 8) (v := ?_) rfl (by kernel_rfl) (by kernel_rfl) (by kernel_rfl) (fun _ _ _ h => h) (Or.inl ⟨by rfl, ?_⟩) ?_
      rotate_left
      · (intro w; go_simp; with_reducible rfl)
      refine wpAny_take (i := 10) (v := ?_) rfl (by kernel_rfl) (by kernel_rfl) (by kernel_rfl) (fun _ _ _ h => h) (Or.inl ⟨by rfl, ?_⟩) ?_
      rotate_left
      · (intro w; go_simp; with_reducible rfl)
      refine wpAny_take (i := 11) (v := ?_) rfl (by kernel_rfl) (by kernel_rfl) (by kernel_rfl) (fun _ _ _ h => h) (Or.inl ⟨by rfl, ?_⟩) ?_
      rotate_left
      · (intro w; go_simp; with_reducible rfl)
      have z0 := ho6.frozenAt (wh.length * 9)
      have z1 := ho6.frozenAt (wh.length * 9 + 1)
      have z2 := ho6.frozenAt (wh.length * 9 + 2)
      have z3 := ho6.frozenAt (wh.length * 9 + 3)
      have z4 := ho6.frozenAt (wh.length * 9 + 4)
      have z5 := ho6.frozenAt (wh.length * 9 + 5)
      have z6 := ho6.frozenAt (wh.length * 9 + 6)
      have z7 := ho6.frozenAt (wh.length * 9 + 7)
      have z8 := ho6.frozenAt (wh.length * 9 + 8)
      obtain ⟨q0, q1, q2, q3, q4, q5, q6, q7, q8⟩ := cells_nine ho6 hlen (by omega)
      have hcz := hS6.1.thaw 5
      have hcc := hS6.1.cell 5
      simp at hcc
      have hcl := hS6.1.lt
      have hggb : g ≠ gb := by omega
      have HB6 := Lib.hid hS6.1
      have HO7 := Lib.hid (own_nine ho6 hlen (.int .i64 x.op) (.string x.tab) (.string x.name) (.int .i64 x.t) (.int .i64 x.c) (.int .i64 x.vk) (.int .i64 x.vi) (.string x.vs) (.slice PA x.l.length ka))
      have HG7 := Lib.hid (grown_nine (p := wh.length * 9) hg6 (hor6.elim (fun h => Or.inl h.symm) (fun h => Or.inr (by cases h; exact Nat.le_refl _))) (.int .i64 x.op) (.string x.tab) (.string x.name) (.int .i64 x.t) (.int .i64 x.c) (.int .i64 x.vk) (.int .i64 x.vi) (.string x.vs) (.slice PA x.l.length ka))
      have HSf := Lib.hid (HDa.out.putW HCS.out HPA.out (x := x) (ka := ka) HO7.out HG7.out hor6)
      have HB7 := Lib.hid (HB6.out.nine (p := wh.length * 9) hggb (.int .i64 x.op) (.string x.tab) (.string x.name) (.int .i64 x.t) (.int .i64 x.c) (.int .i64 x.vk) (.int .i64 x.vi) (.string x.vs) (.slice PA x.l.length ka))
      have HCm := Lib.hid (nine_comm w6 (g := g) (b := gb) (j := 5) (p := wh.length * 9) hggb (.slice (some ⟨gb, 0, none⟩) (wh.length + 1) c6) (.int .i64 x.op) (.string x.tab) (.string x.name) (.int .i64 x.t) (.int .i64 x.c) (.int .i64 x.vk) (.int .i64 x.vi) (.string x.vs) (.slice PA x.l.length ka))
      clear hS0 hSa hS6 HD HDa HON HO7 HG7 HBX hbb hbx2 hor6 hg6 HS
      refine wpAny_ready (rs := [9, 12]) (by kernel_rfl) (by simp) ?_
      refine AllReady.cons rfl (fun K hK => ?_) (AllReady.cons rfl (fun K hK => ?_) AllReady.nil)
      · have HK := Lib.hid hK
        clear hK
        go_simp
        refine HK.out _ _ ?_
        clear HK K z0 z1 z2 z3 z4 z5 z6 z7 z8 q0 q1 q2 q3 q4 q5 q6 q7 q8 hcz hcc hcl HCm ho6 HB6
        generalize (((((((((w6.setCell ⟨gb, wh.length * 9, none⟩ (.int .i64 x.op)).setCell ⟨gb, wh.length * 9 + 1, none⟩ (.string x.tab)).setCell ⟨gb, wh.length * 9 + 2, none⟩ (.string x.name)).setCell ⟨gb, wh.length * 9 + 3, none⟩ (.int .i64 x.t)).setCell ⟨gb, wh.length * 9 + 4, none⟩ (.int .i64 x.c)).setCell ⟨gb, wh.length * 9 + 5, none⟩ (.int .i64 x.vk)).setCell ⟨gb, wh.length * 9 + 6, none⟩ (.int .i64 x.vi)).setCell ⟨gb, wh.length * 9 + 7, none⟩ (.string x.vs)).setCell ⟨gb, wh.length * 9 + 8, none⟩ (.slice PA x.l.length ka)) = W7 at *
        have hcz := HB7.out.thaw 5
        have hcc := HB7.out.cell 5
        simp at hcc
        have hcl := HB7.out.lt
        refine wpAny_ready (rs := [12]) (by kernel_rfl) (by simp) ?_
        refine AllReady.cons rfl (fun K hK => ?_) AllReady.nil
        have HK := Lib.hid hK
        clear hK
        go_simp
        refine HK.out _ _ ?_
        clear HK K
        refine ⟨by kernel_rfl, ?_⟩
        have HF := Lib.hid (HFin.out _ _ _ _ _ (HWp.out _ _ _ _ _ HSf.out))
        clear HSf HFin hcz hcc hcl HB7
        go_wp2
        first | go_end0 | skip
        exact HF.out
      · have HK := Lib.hid hK
        clear hK
        go_simp
        refine HK.out _ _ ?_
        clear HK K z0 z1 z2 z3 z4 z5 z6 z7 z8 q0 q1 q2 q3 q4 q5 q6 q7 q8
        have HO8 := Lib.hid (ownsRow_setCell_below ho6 (a := ⟨g, 5, none⟩) hgb (.slice (some ⟨gb, 0, none⟩) (wh.length + 1) c6))
        have HF := Lib.hid (HFin.out _ _ _ _ _ (HWp.out _ _ _ _ _ HSf.out))
        have HF2 : Hid (PutF pr u v base g core AS kS vL (l ++ [x]) (.returned (.tuple #[])) _) := Lib.hid (HCm.out ▸ HF.out)
        clear HF HSf HFin hcz hcc hcl HB7 HB6 HCm ho6
        generalize (w6.setCell ⟨g, 5, none⟩ (.slice (some ⟨gb, 0, none⟩) (wh.length + 1) c6)) = W8 at *
        have z0 := HO8.out.frozenAt (wh.length * 9)
        have z1 := HO8.out.frozenAt (wh.length * 9 + 1)
        have z2 := HO8.out.frozenAt (wh.length * 9 + 2)
        have z3 := HO8.out.frozenAt (wh.length * 9 + 3)
        have z4 := HO8.out.frozenAt (wh.length * 9 + 4)
        have z5 := HO8.out.frozenAt (wh.length * 9 + 5)
        have z6 := HO8.out.frozenAt (wh.length * 9 + 6)
        have z7 := HO8.out.frozenAt (wh.length * 9 + 7)
        have z8 := HO8.out.frozenAt (wh.length * 9 + 8)
        obtain ⟨q0, q1, q2, q3, q4, q5, q6, q7, q8⟩ := cells_nine HO8.out hlen (by omega)
        have hgl8 : gb < W8.heap.size := own_lt HO8.out gb rfl
        refine wpAny_ready (rs := [9]) (by kernel_rfl) (by simp) ?_
        refine AllReady.cons rfl (fun K hK => ?_) AllReady.nil
        have HK := Lib.hid hK
        clear hK
        go_simp
        refine HK.out _ _ ?_
        clear HK K
        refine ⟨by kernel_rfl, ?_⟩
        clear z0 z1 z2 z3 z4 z5 z6 z7 z8 q0 q1 q2 q3 q4 q5 q6 q7 q8 HO8
        generalize (((((((((W8.setCell ⟨gb, wh.length * 9, none⟩ (.int .i64 x.op)).setCell ⟨gb, wh.length * 9 + 1, none⟩ (.string x.tab)).setCell ⟨gb, wh.length * 9 + 2, none⟩ (.string x.name)).setCell ⟨gb, wh.length * 9 + 3, none⟩ (.int .i64 x.t)).setCell ⟨gb, wh.length * 9 + 4, none⟩ (.int .i64 x.c)).setCell ⟨gb, wh.length * 9 + 5, none⟩ (.int .i64 x.vk)).setCell ⟨gb, wh.length * 9 + 6, none⟩ (.int .i64 x.vi)).setCell ⟨gb, wh.length * 9 + 7, none⟩ (.string x.vs)).setCell ⟨gb, wh.length * 9 + 8, none⟩ (.slice PA x.l.length ka)) = W9 at *
        go_wp2
        first | go_end0 | skip
        exact HF2.out
    by_cases hb1 : (decide ((0 : Int) ≤ us[n]) && decide (us[n] < (core : Int))) = true
    rotate_left
    · have hb1' : (decide ((0 : Int) ≤ us[n]) && decide (us[n] < (core : Int))) = false := by simpa using hb1
      have hwi : wi = 1 := by rw [HWd.out, hend, hb0, hb1']; simp
      subst hwi
      rw [hb1'] at HI1
      rw [hb0] at HI0
      have HWp := Lib.hid (HW1.out rfl)
      clear HW0 HW1 HW2 HW3 HWd HEU HRis HSat HSl HRU lE lT lR hb0 hb1 hb1' hend
      rw [hn]
      generalize us[0] = y0 at *
      generalize us[n] = yn at *
      go_upto_region 7 with (go_at_call 43; first | ((with_reducible refine (HI0.out _ HS.out.blk).grows.mono ?_); rintro e W ⟨rfl, hgn⟩; have HS := Lib.hid (HS.out.more hgn); have HBX := Lib.hid (HBX.out.grew hgn); have hcn := cell_keep hgn hbu hcn; have hbu := Nat.lt_of_lt_of_le hbu (Grew.size hgn); clear hgn) | ((with_reducible refine (HI1.out _ HS.out.blk).grows.mono ?_); rintro e W ⟨rfl, hgn⟩; have HS := Lib.hid (HS.out.more hgn); have HBX := Lib.hid (HBX.out.grew hgn); clear hgn))
      go_upto_region 7 with fail
      obtain ⟨AN, cN, hvN, css, hcs, hoN⟩ := HS.out.bins.each 1 vW wh rfl rfl
      subst hvN
      have HCS := Lib.hid hcs
      have HON := Lib.hid hoN
      have hlen := hcs.flat
      clear hcs hoN
      have HD := Lib.hid (HS.out.more (Grew.refl W).drew)
      have hS0 : Blok W.drew g 44 #[.int .i64 core, .slice AS vs.length kS, vE, vR, vL, (.slice AN wh.length cN)] ∧ Blok W.drew bx 27 #[.int .i64 x.op, .string x.tab, .string x.name, .int .i64 x.t, .int .i64 x.c, .int .i64 x.vk, .int .i64 x.vi, .string x.vs, .slice PA x.l.length ka] := ⟨HD.out.blk, HBX.out.grew (Grew.refl W).drew⟩
      refine wp_region_tail (fun W => Blok W g 44 #[.int .i64 core, .slice AS vs.length kS, vE, vR, vL, (.slice AN wh.length cN)] ∧ Blok W bx 27 #[.int .i64 x.op, .string x.tab, .string x.name, .int .i64 x.t, .int .i64 x.c, .int .i64 x.vk, .int .i64 x.vi, .string x.vs, .slice PA x.l.length ka]) 8 5 rfl (by kernel_rfl) ?_
      refine tail_take 0 (v := ?_) rfl (by kernel_rfl) (by kernel_rfl) (by kernel_rfl) (by kernel_rfl) (fun _ _ _ h => h) (by rfl) ?_ hS0 ?_
      rotate_left
      · (intro W hW; go_simp; with_reducible rfl)
      refine tail_norm (a' := ?_) ?_ ?_
      rotate_left
      · (go_simp; with_reducible rfl)
      refine tail_take 1 (v := ?_) rfl (by kernel_rfl) (by kernel_rfl) (by kernel_rfl) (by kernel_rfl) (fun _ _ _ h => h) (by rfl) ?_ hS0 ?_
      rotate_left
      · (intro W hW; go_simp; with_reducible rfl)
      refine tail_norm (a' := ?_) ?_ ?_
      rotate_left
      · (go_simp; with_reducible rfl)
      refine tail_take 2 (v := ?_) rfl (by kernel_rfl) (by kernel_rfl) (by kernel_rfl) (by kernel_rfl) (fun _ _ _ h => h) (by rfl) ?_ hS0 ?_
      rotate_left
      · (intro W hW; go_simp; with_reducible rfl)
      refine tail_norm (a' := ?_) ?_ ?_
      rotate_left
      · (go_simp; with_reducible rfl)
      refine tail_take 3 (v := ?_) rfl (by kernel_rfl) (by kernel_rfl) (by kernel_rfl) (by kernel_rfl) (fun _ _ _ h => h) (by rfl) ?_ hS0 ?_
      rotate_left
      · (intro W hW; have q := hW.1.cell 5; have ql := hW.1.lt; simp at q; go_simp; with_reducible rfl)
      refine tail_norm (a' := ?_) ?_ ?_
      rotate_left
      · (go_simp; with_reducible rfl)
      refine tail_take 4 (v := ?_) rfl (by kernel_rfl) (by kernel_rfl) (by kernel_rfl) (by kernel_rfl) (fun _ _ _ h => h) (by rfl) ?_ hS0 ?_
      rotate_left
      · (intro W hW; obtain ⟨ql, q0, q1, q2, q3, q4, q5, q6, q7, q8⟩ := blok9c hW.2; go_simp; with_reducible rfl)
      refine tail_norm (a' := ?_) ?_ ?_
      rotate_left
      · (go_simp; with_reducible rfl)
      refine tail_take 5 (v := ?_) rfl (by kernel_rfl) (by kernel_rfl) (by kernel_rfl) (by kernel_rfl) (fun _ _ _ h => h) (by rfl) ?_ hS0 ?_
      rotate_left
      · (intro W hW; go_simp; with_reducible rfl)
      refine tail_norm (a' := ?_) ?_ ?_
      rotate_left
      · (go_simp; with_reducible rfl)
      refine tail_call 6 (by kernel_rfl) (by kernel_rfl) rfl (by rfl) (fun K hK => ?_)
      go_simp
      go_wp2_with fail
      have HDa := Lib.hid (HD.out.more ((Grew.refl W.drew).alloc (.cells #[.int .i64 0, .string ⟨#[]⟩, .string ⟨#[]⟩, .int .i64 0, .int .i64 0, .int .i64 0, .int .i64 0, .string ⟨#[]⟩, .slice none 0 0] 27)))
      have hSa : Blok (W.drew.alloc (.cells #[.int .i64 0, .string ⟨#[]⟩, .string ⟨#[]⟩, .int .i64 0, .int .i64 0, .int .i64 0, .int .i64 0, .string ⟨#[]⟩, .slice none 0 0] 27)) g 44 #[.int .i64 core, .slice AS vs.length kS, vE, vR, vL, (.slice AN wh.length cN)] ∧ Blok (W.drew.alloc (.cells #[.int .i64 0, .string ⟨#[]⟩, .string ⟨#[]⟩, .int .i64 0, .int .i64 0, .int .i64 0, .int .i64 0, .string ⟨#[]⟩, .slice none 0 0] 27)) bx 27 #[.int .i64 x.op, .string x.tab, .string x.name, .int .i64 x.t, .int .i64 x.c, .int .i64 x.vk, .int .i64 x.vi, .string x.vs, .slice PA x.l.length ka] := ⟨HDa.out.blk, hS0.2.alloc _⟩
      refine hK.out _ _ hSa ?_
      clear hK K
      refine tail_call 7 (by kernel_rfl) (by kernel_rfl) rfl (by rfl) (fun K hK => ?_)
      refine wp_appC (.tmp 63) (.tmp 66) 22 27 9 rfl base (.agg #[.int .i64 0, .string ⟨#[]⟩, .string ⟨#[]⟩, .int .i64 0, .int .i64 0, .int .i64 0, .int .i64 0, .string ⟨#[]⟩, .slice none 0 0]) 112 Try.underlying22 infoE rfl (by decide) (by decide) _ wh.length _ rfl (own_alloc (own_grewE HON.out (Grew.refl W).drew) _) _ 1 1 [.int .i64 0, .string ⟨#[]⟩, .string ⟨#[]⟩, .int .i64 0, .int .i64 0, .int .i64 0, .int .i64 0, .string ⟨#[]⟩, .slice none 0 0] rfl rfl (row_new W.drew _ _ #[.int .i64 0, .string ⟨#[]⟩, .string ⟨#[]⟩, .int .i64 0, .int .i64 0, .int .i64 0, .int .i64 0, .string ⟨#[]⟩, .slice none 0 0] rfl) (by intro u hu; simp only [List.mem_cons, List.not_mem_nil, or_false] at hu; rcases hu with rfl | rfl | rfl | rfl | rfl | rfl | rfl | rfl | rfl <;> rfl) (by omega) HDa.out.size ?_
      intro A6 c6 w6 ho6 hg6 hor6
      have hbb := own_base HON.out
      have hbx2 : (Value.slice AN wh.length cN).ownBlock ≠ some bx := fun e => Nat.lt_irrefl _ (HLW.out bx e)
      have hS6 : Blok w6 g 44 #[.int .i64 core, .slice AS vs.length kS, vE, vR, vL, (.slice AN wh.length cN)] ∧ Blok w6 bx 27 #[.int .i64 x.op, .string x.tab, .string x.name, .int .i64 x.t, .int .i64 x.c, .int .i64 x.vk, .int .i64 x.vi, .string x.vs, .slice PA x.l.length ka] := ⟨hSa.1.grown hg6 (fun e => by have := hbb g e; omega), hSa.2.grown hg6 hbx2⟩
      refine hK.out _ _ hS6 ?_
      clear hK K
      refine tail_done (by kernel_rfl) ?_
      obtain ⟨gb, cap, hv, hgb1, hgb2⟩ := World.ownsRow.form ho6 (by omega)
      injection hv with hv1 _ hv3
      subst hv1 hv3
      have hlt1 : (wh.length : Int) < (wh.length : Int) + 1 := by omega
      refine wpAny_take (i := 8) (v := ?_) rfl (by kernel_rfl) (by kernel_rfl) (by kernel_rfl) (fun _ _ _ h => h) (Or.inl ⟨by rfl, ?_⟩) ?_
      rotate_left
      · (intro w; go_simp; with_reducible rfl)
      refine wpAny_take (i := 10) (v := ?_) rfl (by kernel_rfl) (by kernel_rfl) (by kernel_rfl) (fun _ _ _ h => h) (Or.inl ⟨by rfl, ?_⟩) ?_
      rotate_left
      · (intro w; go_simp; with_reducible rfl)
      refine wpAny_take (i := 11) (v := ?_) rfl (by kernel_rfl) (by kernel_rfl) (by kernel_rfl) (fun _ _ _ h => h) (Or.inl ⟨by rfl, ?_⟩) ?_
      rotate_left
      · (intro w; go_simp; with_reducible rfl)
      have z0 := ho6.frozenAt (wh.length * 9)
      have z1 := ho6.frozenAt (wh.length * 9 + 1)
      have z2 := ho6.frozenAt (wh.length * 9 + 2)
      have z3 := ho6.frozenAt (wh.length * 9 + 3)
      have z4 := ho6.frozenAt (wh.length * 9 + 4)
      have z5 := ho6.frozenAt (wh.length * 9 + 5)
      have z6 := ho6.frozenAt (wh.length * 9 + 6)
      have z7 := ho6.frozenAt (wh.length * 9 + 7)
      have z8 := ho6.frozenAt (wh.length * 9 + 8)
      obtain ⟨q0, q1, q2, q3, q4, q5, q6, q7, q8⟩ := cells_nine ho6 hlen (by omega)
      have hcz := hS6.1.thaw 5
      have hcc := hS6.1.cell 5
      simp at hcc
      have hcl := hS6.1.lt
      have hggb : g ≠ gb := by omega
      have HB6 := Lib.hid hS6.1
      have HO7 := Lib.hid (own_nine ho6 hlen (.int .i64 x.op) (.string x.tab) (.string x.name) (.int .i64 x.t) (.int .i64 x.c) (.int .i64 x.vk) (.int .i64 x.vi) (.string x.vs) (.slice PA x.l.length ka))
      have HG7 := Lib.hid (grown_nine (p := wh.length * 9) hg6 (hor6.elim (fun h => Or.inl h.symm) (fun h => Or.inr (by cases h; exact Nat.le_refl _))) (.int .i64 x.op) (.string x.tab) (.string x.name) (.int .i64 x.t) (.int .i64 x.c) (.int .i64 x.vk) (.int .i64 x.vi) (.string x.vs) (.slice PA x.l.length ka))
      have HSf := Lib.hid (HDa.out.putW HCS.out HPA.out (x := x) (ka := ka) HO7.out HG7.out hor6)
      have HB7 := Lib.hid (HB6.out.nine (p := wh.length * 9) hggb (.int .i64 x.op) (.string x.tab) (.string x.name) (.int .i64 x.t) (.int .i64 x.c) (.int .i64 x.vk) (.int .i64 x.vi) (.string x.vs) (.slice PA x.l.length ka))
      have HCm := Lib.hid (nine_comm w6 (g := g) (b := gb) (j := 5) (p := wh.length * 9) hggb (.slice (some ⟨gb, 0, none⟩) (wh.length + 1) c6) (.int .i64 x.op) (.string x.tab) (.string x.name) (.int .i64 x.t) (.int .i64 x.c) (.int .i64 x.vk) (.int .i64 x.vi) (.string x.vs) (.slice PA x.l.length ka))
      clear hS0 hSa hS6 HD HDa HON HO7 HG7 HBX hbb hbx2 hor6 hg6 HS
      refine wpAny_ready (rs := [9, 12]) (by kernel_rfl) (by simp) ?_
      refine AllReady.cons rfl (fun K hK => ?_) (AllReady.cons rfl (fun K hK => ?_) AllReady.nil)
      · have HK := Lib.hid hK
        clear hK
        go_simp
        refine HK.out _ _ ?_
        clear HK K z0 z1 z2 z3 z4 z5 z6 z7 z8 q0 q1 q2 q3 q4 q5 q6 q7 q8 hcz hcc hcl HCm ho6 HB6
        generalize (((((((((w6.setCell ⟨gb, wh.length * 9, none⟩ (.int .i64 x.op)).setCell ⟨gb, wh.length * 9 + 1, none⟩ (.string x.tab)).setCell ⟨gb, wh.length * 9 + 2, none⟩ (.string x.name)).setCell ⟨gb, wh.length * 9 + 3, none⟩ (.int .i64 x.t)).setCell ⟨gb, wh.length * 9 + 4, none⟩ (.int .i64 x.c)).setCell ⟨gb, wh.length * 9 + 5, none⟩ (.int .i64 x.vk)).setCell ⟨gb, wh.length * 9 + 6, none⟩ (.int .i64 x.vi)).setCell ⟨gb, wh.length * 9 + 7, none⟩ (.string x.vs)).setCell ⟨gb, wh.length * 9 + 8, none⟩ (.slice PA x.l.length ka)) = W7 at *
        have hcz := HB7.out.thaw 5
        have hcc := HB7.out.cell 5
        simp at hcc
        have hcl := HB7.out.lt
        refine wpAny_ready (rs := [12]) (by kernel_rfl) (by simp) ?_
        refine AllReady.cons rfl (fun K hK => ?_) AllReady.nil
        have HK := Lib.hid hK
        clear hK
        go_simp
        refine HK.out _ _ ?_
        clear HK K
        refine ⟨by kernel_rfl, ?_⟩
        have HF := Lib.hid (HFin.out _ _ _ _ _ (HWp.out _ _ _ _ _ HSf.out))
        clear HSf HFin hcz hcc hcl HB7
        go_wp2
        first | go_end0 | skip
        exact HF.out
      · have HK := Lib.hid hK
        clear hK
        go_simp
        refine HK.out _ _ ?_
        clear HK K z0 z1 z2 z3 z4 z5 z6 z7 z8 q0 q1 q2 q3 q4 q5 q6 q7 q8
        have HO8 := Lib.hid (ownsRow_setCell_below ho6 (a := ⟨g, 5, none⟩) hgb (.slice (some ⟨gb, 0, none⟩) (wh.length + 1) c6))
        have HF := Lib.hid (HFin.out _ _ _ _ _ (HWp.out _ _ _ _ _ HSf.out))
        have HF2 : Hid (PutF pr u v base g core AS kS vL (l ++ [x]) (.returned (.tuple #[])) _) := Lib.hid (HCm.out ▸ HF.out)
        clear HF HSf HFin hcz hcc hcl HB7 HB6 HCm ho6
        generalize (w6.setCell ⟨g, 5, none⟩ (.slice (some ⟨gb, 0, none⟩) (wh.length + 1) c6)) = W8 at *
        have z0 := HO8.out.frozenAt (wh.length * 9)
        have z1 := HO8.out.frozenAt (wh.length * 9 + 1)
        have z2 := HO8.out.frozenAt (wh.length * 9 + 2)
        have z3 := HO8.out.frozenAt (wh.length * 9 + 3)
        have z4 := HO8.out.frozenAt (wh.length * 9 + 4)
        have z5 := HO8.out.frozenAt (wh.length * 9 + 5)
        have z6 := HO8.out.frozenAt (wh.length * 9 + 6)
        have z7 := HO8.out.frozenAt (wh.length * 9 + 7)
        have z8 := HO8.out.frozenAt (wh.length * 9 + 8)
        obtain ⟨q0, q1, q2, q3, q4, q5, q6, q7, q8⟩ := cells_nine HO8.out hlen (by omega)
        have hgl8 : gb < W8.heap.size := own_lt HO8.out gb rfl
        refine wpAny_ready (rs := [9]) (by kernel_rfl) (by simp) ?_
        refine AllReady.cons rfl (fun K hK => ?_) AllReady.nil
        have HK := Lib.hid hK
        clear hK
        go_simp
        refine HK.out _ _ ?_
        clear HK K
        refine ⟨by kernel_rfl, ?_⟩
        clear z0 z1 z2 z3 z4 z5 z6 z7 z8 q0 q1 q2 q3 q4 q5 q6 q7 q8 HO8
        generalize (((((((((W8.setCell ⟨gb, wh.length * 9, none⟩ (.int .i64 x.op)).setCell ⟨gb, wh.length * 9 + 1, none⟩ (.string x.tab)).setCell ⟨gb, wh.length * 9 + 2, none⟩ (.string x.name)).setCell ⟨gb, wh.length * 9 + 3, none⟩ (.int .i64 x.t)).setCell ⟨gb, wh.length * 9 + 4, none⟩ (.int .i64 x.c)).setCell ⟨gb, wh.length * 9 + 5, none⟩ (.int .i64 x.vk)).setCell ⟨gb, wh.length * 9 + 6, none⟩ (.int .i64 x.vi)).setCell ⟨gb, wh.length * 9 + 7, none⟩ (.string x.vs)).setCell ⟨gb, wh.length * 9 + 8, none⟩ (.slice PA x.l.length ka)) = W9 at *
        go_wp2
        first | go_end0 | skip
        exact HF2.out
    have hout : outI us core = false := by rw [hend, hb0, hb1]; rfl
    rw [hout, if_neg (by simp)] at HWd
    rw [hb0] at HI0
    rw [hb1] at HI1
    have ht0 : 0 ≤ us[0] := by simp at hb0; exact hb0.1
    have ht1 : us[0] < (core : Int) := by simp at hb0; exact hb0.2
    clear hout hend hb1 hb0 HEU HRis HW1
    by_cases h1 : us.length = 1
    rotate_left
    · rw [if_neg h1] at HWd
      have hn1 : ((us.length : Int) == 1) = false := by rw [beq_eq_false_iff_ne]; omega
      rw [hn] at hn1
      clear HW2 HSat HSl HRU lT ht0 ht1 h1
      rw [hn]
      generalize us[0] = y0 at *
      generalize us[n] = yn at *
      cases is
      · have hwi : wi = 0 := by rw [HWd.out]; rfl
        subst hwi
        have HWp := Lib.hid (HW0.out rfl)
        clear HW0 HW3 HWd lE lW
        go_upto_region 3 with (go_at_call 43; first | ((with_reducible refine (HI0.out _ HS.out.blk).grows.mono ?_); rintro e W ⟨rfl, hgn⟩; have HS := Lib.hid (HS.out.more hgn); have HBX := Lib.hid (HBX.out.grew hgn); have hcn := cell_keep hgn hbu hcn; have hbu := Nat.lt_of_lt_of_le hbu (Grew.size hgn); clear hgn) | ((with_reducible refine (HI1.out _ HS.out.blk).grows.mono ?_); rintro e W ⟨rfl, hgn⟩; have HS := Lib.hid (HS.out.more hgn); have HBX := Lib.hid (HBX.out.grew hgn); clear hgn))
        go_upto_region 3 with fail
        obtain ⟨AN, cN, hvN, css, hcs, hoN⟩ := HS.out.bins.each 0 vR rs rfl rfl
        subst hvN
        have HCS := Lib.hid hcs
        have HON := Lib.hid hoN
        have hlen := hcs.flat
        clear hcs hoN
        have HD := Lib.hid (HS.out.more (Grew.refl W).drew)
        have hS0 : Blok W.drew g 44 #[.int .i64 core, .slice AS vs.length kS, vE, (.slice AN rs.length cN), vL, vW] ∧ Blok W.drew bx 27 #[.int .i64 x.op, .string x.tab, .string x.name, .int .i64 x.t, .int .i64 x.c, .int .i64 x.vk, .int .i64 x.vi, .string x.vs, .slice PA x.l.length ka] := ⟨HD.out.blk, HBX.out.grew (Grew.refl W).drew⟩
        refine wp_region_tail (fun W => Blok W g 44 #[.int .i64 core, .slice AS vs.length kS, vE, (.slice AN rs.length cN), vL, vW] ∧ Blok W bx 27 #[.int .i64 x.op, .string x.tab, .string x.name, .int .i64 x.t, .int .i64 x.c, .int .i64 x.vk, .int .i64 x.vi, .string x.vs, .slice PA x.l.length ka]) 8 5 rfl (by kernel_rfl) ?_
        refine tail_take 0 (v := ?_) rfl (by kernel_rfl) (by kernel_rfl) (by kernel_rfl) (by kernel_rfl) (fun _ _ _ h => h) (by rfl) ?_ hS0 ?_
        rotate_left
        · (intro W hW; go_simp; with_reducible rfl)
        refine tail_norm (a' := ?_) ?_ ?_
        rotate_left
        · (go_simp; with_reducible rfl)
        refine tail_take 1 (v := ?_) rfl (by kernel_rfl) (by kernel_rfl) (by kernel_rfl) (by kernel_rfl) (fun _ _ _ h => h) (by rfl) ?_ hS0 ?_
        rotate_left
        · (intro W hW; go_simp; with_reducible rfl)
        refine tail_norm (a' := ?_) ?_ ?_
        rotate_left
        · (go_simp; with_reducible rfl)
        refine tail_take 2 (v := ?_) rfl (by kernel_rfl) (by kernel_rfl) (by kernel_rfl) (by kernel_rfl) (fun _ _ _ h => h) (by rfl) ?_ hS0 ?_
        rotate_left
        · (intro W hW; go_simp; with_reducible rfl)
        refine tail_norm (a' := ?_) ?_ ?_
        rotate_left
        · (go_simp; with_reducible rfl)
        refine tail_take 3 (v := ?_) rfl (by kernel_rfl) (by kernel_rfl) (by kernel_rfl) (by kernel_rfl) (fun _ _ _ h => h) (by rfl) ?_ hS0 ?_
        rotate_left
        · (intro W hW; have q := hW.1.cell 3; have ql := hW.1.lt; simp at q; go_simp; with_reducible rfl)
        refine tail_norm (a' := ?_) ?_ ?_
        rotate_left
        · (go_simp; with_reducible rfl)
        refine tail_take 4 (v := ?_) rfl (by kernel_rfl) (by kernel_rfl) (by kernel_rfl) (by kernel_rfl) (fun _ _ _ h => h) (by rfl) ?_ hS0 ?_
        rotate_left
        · (intro W hW; obtain ⟨ql, q0, q1, q2, q3, q4, q5, q6, q7, q8⟩ := blok9c hW.2; go_simp; with_reducible rfl)
        refine tail_norm (a' := ?_) ?_ ?_
        rotate_left
        · (go_simp; with_reducible rfl)
        refine tail_take 5 (v := ?_) rfl (by kernel_rfl) (by kernel_rfl) (by kernel_rfl) (by kernel_rfl) (fun _ _ _ h => h) (by rfl) ?_ hS0 ?_
        rotate_left
        · (intro W hW; go_simp; with_reducible rfl)
        refine tail_norm (a' := ?_) ?_ ?_
        rotate_left
        · (go_simp; with_reducible rfl)
        refine tail_call 6 (by kernel_rfl) (by kernel_rfl) rfl (by rfl) (fun K hK => ?_)
        go_simp
        go_wp2_with fail
        have HDa := Lib.hid (HD.out.more ((Grew.refl W.drew).alloc (.cells #[.int .i64 0, .string ⟨#[]⟩, .string ⟨#[]⟩, .int .i64 0, .int .i64 0, .int .i64 0, .int .i64 0, .string ⟨#[]⟩, .slice none 0 0] 27)))
        have hSa : Blok (W.drew.alloc (.cells #[.int .i64 0, .string ⟨#[]⟩, .string ⟨#[]⟩, .int .i64 0, .int .i64 0, .int .i64 0, .int .i64 0, .string ⟨#[]⟩, .slice none 0 0] 27)) g 44 #[.int .i64 core, .slice AS vs.length kS, vE, (.slice AN rs.length cN), vL, vW] ∧ Blok (W.drew.alloc (.cells #[.int .i64 0, .string ⟨#[]⟩, .string ⟨#[]⟩, .int .i64 0, .int .i64 0, .int .i64 0, .int .i64 0, .string ⟨#[]⟩, .slice none 0 0] 27)) bx 27 #[.int .i64 x.op, .string x.tab, .string x.name, .int .i64 x.t, .int .i64 x.c, .int .i64 x.vk, .int .i64 x.vi, .string x.vs, .slice PA x.l.length ka] := ⟨HDa.out.blk, hS0.2.alloc _⟩
        refine hK.out _ _ hSa ?_
        clear hK K
        refine tail_call 7 (by kernel_rfl) (by kernel_rfl) rfl (by rfl) (fun K hK => ?_)
        refine wp_appC (.tmp 19) (.tmp 22) 22 27 9 rfl base (.agg #[.int .i64 0, .string ⟨#[]⟩, .string ⟨#[]⟩, .int .i64 0, .int .i64 0, .int .i64 0, .int .i64 0, .string ⟨#[]⟩, .slice none 0 0]) 112 Try.underlying22 infoE rfl (by decide) (by decide) _ rs.length _ rfl (own_alloc (own_grewE HON.out (Grew.refl W).drew) _) _ 1 1 [.int .i64 0, .string ⟨#[]⟩, .string ⟨#[]⟩, .int .i64 0, .int .i64 0, .int .i64 0, .int .i64 0, .string ⟨#[]⟩, .slice none 0 0] rfl rfl (row_new W.drew _ _ #[.int .i64 0, .string ⟨#[]⟩, .string ⟨#[]⟩, .int .i64 0, .int .i64 0, .int .i64 0, .int .i64 0, .string ⟨#[]⟩, .slice none 0 0] rfl) (by intro u hu; simp only [List.mem_cons, List.not_mem_nil, or_false] at hu; rcases hu with rfl | rfl | rfl | rfl | rfl | rfl | rfl | rfl | rfl <;> rfl) (by omega) HDa.out.size ?_
        intro A6 c6 w6 ho6 hg6 hor6
        have hbb := own_base HON.out
        have hbx2 : (Value.slice AN rs.length cN).ownBlock ≠ some bx := fun e => Nat.lt_irrefl _ (HLR.out bx e)
        have hS6 : Blok w6 g 44 #[.int .i64 core, .slice AS vs.length kS, vE, (.slice AN rs.length cN), vL, vW] ∧ Blok w6 bx 27 #[.int .i64 x.op, .string x.tab, .string x.name, .int .i64 x.t, .int .i64 x.c, .int .i64 x.vk, .int .i64 x.vi, .string x.vs, .slice PA x.l.length ka] := ⟨hSa.1.grown hg6 (fun e => by have := hbb g e; omega), hSa.2.grown hg6 hbx2⟩
        refine hK.out _ _ hS6 ?_
        clear hK K
        refine tail_done (by kernel_rfl) ?_
        obtain ⟨gb, cap, hv, hgb1, hgb2⟩ := World.ownsRow.form ho6 (by omega)
        injection hv with hv1 _ hv3
        subst hv1 hv3
        have hlt1 : (rs.length : Int) < (rs.length : Int) + 1 := by omega
        refine wpAny_take (i := 8) (v := ?_) rfl (by kernel_rfl) (by kernel_rfl) (by kernel_rfl) (fun _ _ _ h => h) (Or.inl ⟨by rfl, ?_⟩) ?_
        rotate_left
        · (intro w; go_simp; with_reducible rfl)
        refine wpAny_take (i := 10) (v := ?_) rfl (by kernel_rfl) (by kernel_rfl) (by kernel_rfl) (fun _ _ _ h => h) (Or.inl ⟨by rfl, ?_⟩) ?_
        rotate_left
        · (intro w; go_simp; with_reducible rfl)
        refine wpAny_take (i := 11) (v := ?_) rfl (by kernel_rfl) (by kernel_rfl) (by kernel_rfl) (fun _ _ _ h => h) (Or.inl ⟨by rfl, ?_⟩) ?_
        rotate_left
        · (intro w; go_simp; with_reducible rfl)
        have z0 := ho6.frozenAt (rs.length * 9)
        have z1 := ho6.frozenAt (rs.length * 9 + 1)
        have z2 := ho6.frozenAt (rs.length * 9 + 2)
        have z3 := ho6.frozenAt (rs.length * 9 + 3)
        have z4 := ho6.frozenAt (rs.length * 9 + 4)
        have z5 := ho6.frozenAt (rs.length * 9 + 5)
        have z6 := ho6.frozenAt (rs.length * 9 + 6)
        have z7 := ho6.frozenAt (rs.length * 9 + 7)
        have z8 := ho6.frozenAt (rs.length * 9 + 8)
        obtain ⟨q0, q1, q2, q3, q4, q5, q6, q7, q8⟩ := cells_nine ho6 hlen (by omega)
        have hcz := hS6.1.thaw 3
        have hcc := hS6.1.cell 3
        simp at hcc
        have hcl := hS6.1.lt
        have hggb : g ≠ gb := by omega
        have HB6 := Lib.hid hS6.1
        have HO7 := Lib.hid (own_nine ho6 hlen (.int .i64 x.op) (.string x.tab) (.string x.name) (.int .i64 x.t) (.int .i64 x.c) (.int .i64 x.vk) (.int .i64 x.vi) (.string x.vs) (.slice PA x.l.length ka))
        have HG7 := Lib.hid (grown_nine (p := rs.length * 9) hg6 (hor6.elim (fun h => Or.inl h.symm) (fun h => Or.inr (by cases h; exact Nat.le_refl _))) (.int .i64 x.op) (.string x.tab) (.string x.name) (.int .i64 x.t) (.int .i64 x.c) (.int .i64 x.vk) (.int .i64 x.vi) (.string x.vs) (.slice PA x.l.length ka))
        have HSf := Lib.hid (HDa.out.putR HCS.out HPA.out (x := x) (ka := ka) HO7.out HG7.out hor6)
        have HB7 := Lib.hid (HB6.out.nine (p := rs.length * 9) hggb (.int .i64 x.op) (.string x.tab) (.string x.name) (.int .i64 x.t) (.int .i64 x.c) (.int .i64 x.vk) (.int .i64 x.vi) (.string x.vs) (.slice PA x.l.length ka))
        have HCm := Lib.hid (nine_comm w6 (g := g) (b := gb) (j := 3) (p := rs.length * 9) hggb (.slice (some ⟨gb, 0, none⟩) (rs.length + 1) c6) (.int .i64 x.op) (.string x.tab) (.string x.name) (.int .i64 x.t) (.int .i64 x.c) (.int .i64 x.vk) (.int .i64 x.vi) (.string x.vs) (.slice PA x.l.length ka))
        clear hS0 hSa hS6 HD HDa HON HO7 HG7 HBX hbb hbx2 hor6 hg6 HS
        refine wpAny_ready (rs := [9, 12]) (by kernel_rfl) (by simp) ?_
        refine AllReady.cons rfl (fun K hK => ?_) (AllReady.cons rfl (fun K hK => ?_) AllReady.nil)
        · have HK := Lib.hid hK
          clear hK
          go_simp
          refine HK.out _ _ ?_
          clear HK K z0 z1 z2 z3 z4 z5 z6 z7 z8 q0 q1 q2 q3 q4 q5 q6 q7 q8 hcz hcc hcl HCm ho6 HB6
          generalize (((((((((w6.setCell ⟨gb, rs.length * 9, none⟩ (.int .i64 x.op)).setCell ⟨gb, rs.length * 9 + 1, none⟩ (.string x.tab)).setCell ⟨gb, rs.length * 9 + 2, none⟩ (.string x.name)).setCell ⟨gb, rs.length * 9 + 3, none⟩ (.int .i64 x.t)).setCell ⟨gb, rs.length * 9 + 4, none⟩ (.int .i64 x.c)).setCell ⟨gb, rs.length * 9 + 5, none⟩ (.int .i64 x.vk)).setCell ⟨gb, rs.length * 9 + 6, none⟩ (.int .i64 x.vi)).setCell ⟨gb, rs.length * 9 + 7, none⟩ (.string x.vs)).setCell ⟨gb, rs.length * 9 + 8, none⟩ (.slice PA x.l.length ka)) = W7 at *
          have hcz := HB7.out.thaw 3
          have hcc := HB7.out.cell 3
          simp at hcc
          have hcl := HB7.out.lt
          refine wpAny_ready (rs := [12]) (by kernel_rfl) (by simp) ?_
          refine AllReady.cons rfl (fun K hK => ?_) AllReady.nil
          have HK := Lib.hid hK
          clear hK
          go_simp
          refine HK.out _ _ ?_
          clear HK K
          refine ⟨by kernel_rfl, ?_⟩
          have HF := Lib.hid (HFin.out _ _ _ _ _ (HWp.out _ _ _ _ _ HSf.out))
          clear HSf HFin hcz hcc hcl HB7
          go_wp2
          first | go_end0 | skip
          exact HF.out
        · have HK := Lib.hid hK
          clear hK
          go_simp
          refine HK.out _ _ ?_
          clear HK K z0 z1 z2 z3 z4 z5 z6 z7 z8 q0 q1 q2 q3 q4 q5 q6 q7 q8
          have HO8 := Lib.hid (ownsRow_setCell_below ho6 (a := ⟨g, 3, none⟩) hgb (.slice (some ⟨gb, 0, none⟩) (rs.length + 1) c6))
          have HF := Lib.hid (HFin.out _ _ _ _ _ (HWp.out _ _ _ _ _ HSf.out))
          have HF2 : Hid (PutF pr u v base g core AS kS vL (l ++ [x]) (.returned (.tuple #[])) _) := Lib.hid (HCm.out ▸ HF.out)
          clear HF HSf HFin hcz hcc hcl HB7 HB6 HCm ho6
          generalize (w6.setCell ⟨g, 3, none⟩ (.slice (some ⟨gb, 0, none⟩) (rs.length + 1) c6)) = W8 at *
          have z0 := HO8.out.frozenAt (rs.length * 9)
          have z1 := HO8.out.frozenAt (rs.length * 9 + 1)
          have z2 := HO8.out.frozenAt (rs.length * 9 + 2)
          have z3 := HO8.out.frozenAt (rs.length * 9 + 3)
          have z4 := HO8.out.frozenAt (rs.length * 9 + 4)
          have z5 := HO8.out.frozenAt (rs.length * 9 + 5)
          have z6 := HO8.out.frozenAt (rs.length * 9 + 6)
          have z7 := HO8.out.frozenAt (rs.length * 9 + 7)
          have z8 := HO8.out.frozenAt (rs.length * 9 + 8)
          obtain ⟨q0, q1, q2, q3, q4, q5, q6, q7, q8⟩ := cells_nine HO8.out hlen (by omega)
          have hgl8 : gb < W8.heap.size := own_lt HO8.out gb rfl
          refine wpAny_ready (rs := [9]) (by kernel_rfl) (by simp) ?_
          refine AllReady.cons rfl (fun K hK => ?_) AllReady.nil
          have HK := Lib.hid hK
          clear hK
          go_simp
          refine HK.out _ _ ?_
          clear HK K
          refine ⟨by kernel_rfl, ?_⟩
          clear z0 z1 z2 z3 z4 z5 z6 z7 z8 q0 q1 q2 q3 q4 q5 q6 q7 q8 HO8
          generalize (((((((((W8.setCell ⟨gb, rs.length * 9, none⟩ (.int .i64 x.op)).setCell ⟨gb, rs.length * 9 + 1, none⟩ (.string x.tab)).setCell ⟨gb, rs.length * 9 + 2, none⟩ (.string x.name)).setCell ⟨gb, rs.length * 9 + 3, none⟩ (.int .i64 x.t)).setCell ⟨gb, rs.length * 9 + 4, none⟩ (.int .i64 x.c)).setCell ⟨gb, rs.length * 9 + 5, none⟩ (.int .i64 x.vk)).setCell ⟨gb, rs.length * 9 + 6, none⟩ (.int .i64 x.vi)).setCell ⟨gb, rs.length * 9 + 7, none⟩ (.string x.vs)).setCell ⟨gb, rs.length * 9 + 8, none⟩ (.slice PA x.l.length ka)) = W9 at *
          go_wp2
          first | go_end0 | skip
          exact HF2.out
      · have hwi : wi = 3 := by rw [HWd.out]; rfl
        subst hwi
        have HWp := Lib.hid (HW3.out rfl)
        clear HW0 HW3 HWd lR lW
        go_upto_region 14 with (go_at_call 43; first | ((with_reducible refine (HI0.out _ HS.out.blk).grows.mono ?_); rintro e W ⟨rfl, hgn⟩; have HS := Lib.hid (HS.out.more hgn); have HBE := Lib.hid (HBE.out.grew hgn); have hcn := cell_keep hgn hbu hcn; have hbu := Nat.lt_of_lt_of_le hbu (Grew.size hgn); clear hgn) | ((with_reducible refine (HI1.out _ HS.out.blk).grows.mono ?_); rintro e W ⟨rfl, hgn⟩; have HS := Lib.hid (HS.out.more hgn); have HBE := Lib.hid (HBE.out.grew hgn); clear hgn))
        obtain ⟨AN, cN, hvN, hoN⟩ := HS.out.edges
        subst hvN
        have HON := Lib.hid hoN
        clear hoN
        have HD := Lib.hid (HS.out.more (Grew.refl W).drew)
        have hS0 : Blok W.drew g 44 #[.int .i64 core, .slice AS vs.length kS, .slice AN es.length cN, vR, vL, vW] ∧ Blok W.drew be 34 #[.int .i64 e1, .int .i64 e2, .int .i64 e3, .int .i64 e4] := ⟨HD.out.blk, HBE.out.grew (Grew.refl W).drew⟩
        refine wp_region_last (fun W => Blok W g 44 #[.int .i64 core, .slice AS vs.length kS, .slice AN es.length cN, vR, vL, vW] ∧ Blok W be 34 #[.int .i64 e1, .int .i64 e2, .int .i64 e3, .int .i64 e4]) 10 rfl (by kernel_rfl) ?_
        refine last_take 0 (v := ?_) rfl (by kernel_rfl) (by kernel_rfl) (by kernel_rfl) (by kernel_rfl) (fun _ _ _ h => h) (by rfl) ?_ hS0 ?_
        rotate_left
        · (intro W hW; go_simp; with_reducible rfl)
        refine last_take 1 (v := ?_) rfl (by kernel_rfl) (by kernel_rfl) (by kernel_rfl) (by kernel_rfl) (fun _ _ _ h => h) (by rfl) ?_ hS0 ?_
        rotate_left
        · (intro W hW; go_simp; with_reducible rfl)
        refine last_take 2 (v := ?_) rfl (by kernel_rfl) (by kernel_rfl) (by kernel_rfl) (by kernel_rfl) (fun _ _ _ h => h) (by rfl) ?_ hS0 ?_
        rotate_left
        · (intro W hW; go_simp; with_reducible rfl)
        refine last_take 3 (v := ?_) rfl (by kernel_rfl) (by kernel_rfl) (by kernel_rfl) (by kernel_rfl) (fun _ _ _ h => h) (by rfl) ?_ hS0 ?_
        rotate_left
        · (intro W hW; go_simp; with_reducible rfl)
        refine last_norm (a' := ?_) ?_ ?_
        rotate_left
        · (go_simp; with_reducible rfl)
        refine last_take 4 (v := ?_) rfl (by kernel_rfl) (by kernel_rfl) (by kernel_rfl) (by kernel_rfl) (fun _ _ _ h => h) (by rfl) ?_ hS0 ?_
        rotate_left
        · (intro W hW; have q := hW.1.cell 2; have ql := hW.1.lt; simp at q; go_simp; with_reducible rfl)
        refine last_norm (a' := ?_) ?_ ?_
        rotate_left
        · (go_simp; with_reducible rfl)
        refine last_take 5 (v := ?_) rfl (by kernel_rfl) (by kernel_rfl) (by kernel_rfl) (by kernel_rfl) (fun _ _ _ h => h) (by rfl) ?_ hS0 ?_
        rotate_left
        · (intro W hW; obtain ⟨ql, q0, q1, q2, q3, _, _, _, _⟩ := ed_in hW.2; go_simp; with_reducible rfl)
        refine last_norm (a' := ?_) ?_ ?_
        rotate_left
        · (go_simp; with_reducible rfl)
        refine last_call 6 (by kernel_rfl) (by kernel_rfl) rfl (by rfl) (fun K hK => ?_)
        go_simp
        go_wp2_with fail
        have HDa := Lib.hid (HD.out.more ((Grew.refl W.drew).alloc (.cells #[.int .i64 e1, .int .i64 e2, .int .i64 e3, .int .i64 e4] 34)))
        have hSa : Blok (W.drew.alloc (.cells #[.int .i64 e1, .int .i64 e2, .int .i64 e3, .int .i64 e4] 34)) g 44 #[.int .i64 core, .slice AS vs.length kS, .slice AN es.length cN, vR, vL, vW] ∧ Blok (W.drew.alloc (.cells #[.int .i64 e1, .int .i64 e2, .int .i64 e3, .int .i64 e4] 34)) be 34 #[.int .i64 e1, .int .i64 e2, .int .i64 e3, .int .i64 e4] := ⟨HDa.out.blk, hS0.2.alloc _⟩
        refine hK.out _ _ hSa ?_
        clear hK K
        refine last_call 7 (by kernel_rfl) (by kernel_rfl) rfl (by rfl) (fun K hK => ?_)
        refine wp_appC (.tmp 118) (.tmp 120) 41 34 4 rfl base (.agg #[.int .i64 0, .int .i64 0, .int .i64 0, .int .i64 0]) 32 Try.underlying41 infoEd rfl (by decide) (by decide) _ es.length _ rfl (own_alloc (own_grewE HON.out (Grew.refl W).drew) _) _ 1 1 [.int .i64 e1, .int .i64 e2, .int .i64 e3, .int .i64 e4] rfl rfl (row_new W.drew _ _ #[.int .i64 e1, .int .i64 e2, .int .i64 e3, .int .i64 e4] rfl) (by simp [Value.oneCell']) (by omega) HDa.out.size ?_
        intro A6 c6 w6 ho6 hg6 hor6
        have hbb := own_base HON.out
        have hS6 : Blok w6 g 44 #[.int .i64 core, .slice AS vs.length kS, .slice AN es.length cN, vR, vL, vW] ∧ Blok w6 be 34 #[.int .i64 e1, .int .i64 e2, .int .i64 e3, .int .i64 e4] := ⟨hSa.1.grown hg6 (fun e => by have := hbb g e; omega), hSa.2.grown hg6 (fun e => Nat.lt_asymm hbe (HLE.out be e))⟩
        have HSf := Lib.hid (HDa.out.putE (e := ⟨e1, e2, e3, e4⟩) ho6 hg6 hor6)
        refine hK.out _ _ hS6 ?_
        clear hK K
        refine last_take 8 (v := ?_) rfl (by kernel_rfl) (by kernel_rfl) (by kernel_rfl) (by kernel_rfl) (fun _ _ _ h => h) (by rfl) ?_ hS6 ?_
        rotate_left
        · (intro W hW; go_simp; with_reducible rfl)
        refine last_take 9 (v := ?_) rfl (by kernel_rfl) (by kernel_rfl) (by kernel_rfl) (by kernel_rfl) (fun _ _ _ h => h) (by rfl) ?_ hS6 ?_
        rotate_left
        · (intro W hW; go_simp; with_reducible rfl)
        refine last_norm (a' := ?_) ?_ ?_
        rotate_left
        · (go_simp; with_reducible rfl)
        have z2 := hS6.1.thaw 2
        have zc := hS6.1.cell 2
        have zl := hS6.1.lt
        simp at zc
        refine last_last (by kernel_rfl) (by kernel_rfl) rfl (by rfl) (fun K hK => ?_)
        go_simp
        go_wp2_with fail
        refine hK.out _ _ ?_
        clear hK K
        have HF := Lib.hid (HFin.out _ _ _ _ _ (HWp.out _ _ _ _ _ HSf.out))
        clear HSf HFin hS6 hSa hS0 z2 zc zl hor6 hg6 ho6 HD HDa HON HS HBE
        go_wp2
        first | go_end0 | skip
        exact HF.out
    · have hn00 : n = 0 := by omega
      subst hn00
      rw [if_pos h1] at HWd
      have hwi : wi = 2 := HWd.out
      subst hwi
      obtain ⟨t, ht⟩ : ∃ t : Nat, us[0] = (t : Int) := ⟨us[0].toNat, by omega⟩
      have hus : us = [(t : Int)] := by
        obtain ⟨y, rfl⟩ := List.length_eq_one_iff.1 h1
        simp only [List.getElem_cons_zero] at ht
        rw [ht]
      subst hus
      simp only [List.getElem_cons_zero] at HI0 HI1 hc0 hcn ht1 ht0 ht
      have htc : t < core := by omega
      have HWp := Lib.hid (HW2.out rfl t rfl)
      have hsq := HSat.out t htc
      have hvl : vs.length = core := by rw [HS.out.sizes]; exact HSl.out
      have htl : t < vs.length := by omega
      have htl' : (t : Int) < (vs.length : Int) := by omega
      have ltt := lT t
      clear HW0 HW2 HW3 HWd HSat HSl lE lW lR lT ht0 ht1 ht h1 hnl hnn hn0 hn
      generalize nT core t l = lq at *
      simp only [List.length_cons, List.length_nil, Nat.zero_add] at *
      have hbbu : bx < bu := HUo.out bu rfl
      clear hcn
      go_upto_region 9 with (go_at_call 43; (with_reducible refine (HI0.out _ HS.out.blk).grows.mono ?_); rintro e W ⟨rfl, hgn⟩; have HS := Lib.hid (HS.out.more hgn); have HBX := Lib.hid (HBX.out.grew hgn); have HRU := Lib.hid (HRU.out.grew hgn); have hc0 := cell_keep hgn hbu hc0; have hbu := Nat.lt_of_lt_of_le hbu (Grew.size hgn); clear hgn)
      refine wp_region_any (by kernel_rfl) ?_
      refine wpAny_ready (rs := [0]) (by kernel_rfl) (by simp) ?_
      refine AllReady.cons rfl (fun K hK => ?_) AllReady.nil
      go_simp
      go_wp2_with fail
      refine wpAny_ready (rs := [1, 2]) (by kernel_rfl) (by simp) ?_
      refine AllReady.cons rfl (fun K hK => ?_) (AllReady.cons rfl (fun K hK => ?_) AllReady.nil)
      · have HK := Lib.hid hK
        clear hK
        go_simp
        refine HK.out _ _ ?_
        clear HK K
        refine wpAny_ready (rs := [2]) (by kernel_rfl) (by simp) ?_
        refine AllReady.cons rfl (fun K hK => ?_) AllReady.nil
        have HK := Lib.hid hK
        clear hK
        go_simp
        refine HK.out _ _ ?_
        clear HK K
        refine wpAny_ready (rs := [3]) (by kernel_rfl) (by simp) ?_
        refine AllReady.cons rfl (fun K hK => ?_) AllReady.nil
        have HK := Lib.hid hK
        clear hK
        go_simp
        refine HK.out _ _ ?_
        clear HK K
        refine ⟨by kernel_rfl, ?_⟩
        have hgz : Grew W (W.alloc (.cells #[.bool false] 4)).drew := ((Grew.refl W).alloc _).drew
        have HSz := Lib.hid (HS.out.more hgz)
        have HBXz := Lib.hid (HBX.out.grew hgz)
        have HRUz := Lib.hid (HRU.out.grew hgz)
        clear hgz HS HBX HRU hc0 hbu HBE HI0 HI1
        generalize (W.alloc (.cells #[.bool false] 4)).drew = Wz at *
        generalize W.heap.size = bz at *
        have HS := HSz
        have HBX := HBXz
        have HRU := HRUz
        clear HSz HBXz HRUz W
        go_upto_region 12 with fail
        obtain ⟨b0, capS, hvS, hb01, hb02⟩ := World.ownsRow.form HS.out.outer (by omega)
        injection hvS with hvS1 _ hvS3
        subst hvS1 hvS3
        have hvq : vs[t]? = some vs[t] := List.getElem?_eq_getElem htl
        obtain ⟨AN, cN, hvN, css, hcs, hoN⟩ := HS.out.bins.each (t + 2) vs[t] lq (by simp) (by simpa using hsq)
        have HCS := Lib.hid hcs
        have HON := Lib.hid hoN
        have hlen := hcs.flat
        have HLq : Hid (∀ i, (Value.slice AN lq.length cN).ownBlock = some i → i < bx) := Lib.hid fun i hi => HLS.out t vs[t] lq hvq hsq i (by rw [hvN]; exact hi)
        rw [hvN] at hvq
        clear hcs hoN hvN
        have HD := Lib.hid (HS.out.more (Grew.refl Wz).drew)
        have hS0 : Blok Wz.drew g 44 #[.int .i64 core, .slice (some ⟨b0, 0, none⟩) vs.length kS, vE, vR, vL, vW] ∧ Blok Wz.drew bx 27 #[.int .i64 x.op, .string x.tab, .string x.name, .int .i64 x.t, .int .i64 x.c, .int .i64 x.vk, .int .i64 x.vi, .string x.vs, .slice PA x.l.length ka] ∧ Row Wz.drew (some ⟨bu, ou, none⟩) (iV [(t : Int)]) ∧ Wz.drew.ownsRow base 22 1 (.slice (some ⟨b0, 0, none⟩) vs.length kS) vs.length vs := ⟨HD.out.blk, HBX.out.grew (Grew.refl Wz).drew, HRU.out.grew (Grew.refl Wz).drew, HD.out.outer⟩
        refine wp_region_last (fun W => Blok W g 44 #[.int .i64 core, .slice (some ⟨b0, 0, none⟩) vs.length kS, vE, vR, vL, vW] ∧ Blok W bx 27 #[.int .i64 x.op, .string x.tab, .string x.name, .int .i64 x.t, .int .i64 x.c, .int .i64 x.vk, .int .i64 x.vi, .string x.vs, .slice PA x.l.length ka] ∧ Row W (some ⟨bu, ou, none⟩) (iV [(t : Int)]) ∧ W.ownsRow base 22 1 (.slice (some ⟨b0, 0, none⟩) vs.length kS) vs.length vs) 20 rfl (by kernel_rfl) ?_
        refine last_take 0 (v := ?_) rfl (by kernel_rfl) (by kernel_rfl) (by kernel_rfl) (by kernel_rfl) (fun _ _ _ h => h) (by rfl) ?_ hS0 ?_
        rotate_left
        · (intro W hW; go_simp; with_reducible rfl)
        refine last_take 1 (v := ?_) rfl (by kernel_rfl) (by kernel_rfl) (by kernel_rfl) (by kernel_rfl) (fun _ _ _ h => h) (by rfl) ?_ hS0 ?_
        rotate_left
        · (intro W hW; go_simp; with_reducible rfl)
        refine last_take 2 (v := ?_) rfl (by kernel_rfl) (by kernel_rfl) (by kernel_rfl) (by kernel_rfl) (fun _ _ _ h => h) (by rfl) ?_ hS0 ?_
        rotate_left
        · (intro W hW; go_simp; with_reducible rfl)
        refine last_take 7 (v := ?_) rfl (by kernel_rfl) (by kernel_rfl) (by kernel_rfl) (by kernel_rfl) (fun _ _ _ h => h) (by rfl) ?_ hS0 ?_
        rotate_left
        · (intro W hW; go_simp; with_reducible rfl)
        refine last_take 8 (v := ?_) rfl (by kernel_rfl) (by kernel_rfl) (by kernel_rfl) (by kernel_rfl) (fun _ _ _ h => h) (by rfl) ?_ hS0 ?_
        rotate_left
        · (intro W hW; go_simp; with_reducible rfl)
        refine last_take 9 (v := ?_) rfl (by kernel_rfl) (by kernel_rfl) (by kernel_rfl) (by kernel_rfl) (fun _ _ _ h => h) (by rfl) ?_ hS0 ?_
        rotate_left
        · (intro W hW; go_simp; with_reducible rfl)
        refine last_norm (a' := ?_) ?_ ?_
        rotate_left
        · (go_simp; with_reducible rfl)
        refine last_take 3 (v := ?_) rfl (by kernel_rfl) (by kernel_rfl) (by kernel_rfl) (by kernel_rfl) (fun _ _ _ h => h) (by rfl) ?_ hS0 ?_
        rotate_left
        · (intro W hW; have q := hW.1.cell 1; have ql := hW.1.lt; simp at q; go_simp; with_reducible rfl)
        refine last_norm (a' := ?_) ?_ ?_
        rotate_left
        · (go_simp; with_reducible rfl)
        refine last_take 10 (v := ?_) rfl (by kernel_rfl) (by kernel_rfl) (by kernel_rfl) (by kernel_rfl) (fun _ _ _ h => h) (by rfl) ?_ hS0 ?_
        rotate_left
        · (intro W hW; have q := hW.1.cell 1; have ql := hW.1.lt; simp at q; go_simp; with_reducible rfl)
        refine last_norm (a' := ?_) ?_ ?_
        rotate_left
        · (go_simp; with_reducible rfl)
        refine last_take 4 (v := ?_) rfl (by kernel_rfl) (by kernel_rfl) (by kernel_rfl) (by kernel_rfl) (fun _ _ _ h => h) (by rfl) ?_ hS0 ?_
        rotate_left
        · (intro W hW; go_simp; with_reducible rfl)
        refine last_take 5 (v := ?_) rfl (by kernel_rfl) (by kernel_rfl) (by kernel_rfl) (by kernel_rfl) (fun _ _ _ h => h) (by rfl) ?_ hS0 ?_
        rotate_left
        · (intro W hW; go_simp; with_reducible rfl)
        refine last_take 11 (v := ?_) rfl (by kernel_rfl) (by kernel_rfl) (by kernel_rfl) (by kernel_rfl) (fun _ _ _ h => h) (by rfl) ?_ hS0 ?_
        rotate_left
        · (intro W hW; go_simp; with_reducible rfl)
        refine last_take 12 (v := ?_) rfl (by kernel_rfl) (by kernel_rfl) (by kernel_rfl) (by kernel_rfl) (fun _ _ _ h => h) (by rfl) ?_ hS0 ?_
        rotate_left
        · (intro W hW; go_simp; with_reducible rfl)
        refine last_norm (a' := ?_) ?_ ?_
        rotate_left
        · (go_simp; with_reducible rfl)
        refine last_take 6 (v := ?_) rfl (by kernel_rfl) (by kernel_rfl) (by kernel_rfl) (by kernel_rfl) (fun _ _ _ h => h) (by rfl) ?_ hS0 ?_
        rotate_left
        · (intro W hW; obtain ⟨bu', ou', hbe', hbl', hbc'⟩ := rowI_at hW.2.2.1 (j := 0) (by simp); cases hbe'; simp at hbc'; go_simp; with_reducible rfl)
        refine last_norm (a' := ?_) ?_ ?_
        rotate_left
        · (go_simp; with_reducible rfl)
        refine last_take 13 (v := ?_) rfl (by kernel_rfl) (by kernel_rfl) (by kernel_rfl) (by kernel_rfl) (fun _ _ _ h => h) (by rfl) ?_ hS0 ?_
        rotate_left
        · (intro W hW; obtain ⟨bu', ou', hbe', hbl', hbc'⟩ := rowI_at hW.2.2.1 (j := 0) (by simp); cases hbe'; simp at hbc'; go_simp; with_reducible rfl)
        refine last_norm (a' := ?_) ?_ ?_
        rotate_left
        · (go_simp; with_reducible rfl)
        refine last_take 14 (v := ?_) rfl (by kernel_rfl) (by kernel_rfl) (by kernel_rfl) (by kernel_rfl) (fun _ _ _ h => h) (by rfl) ?_ hS0 ?_
        rotate_left
        · (intro W hW; go_simp; with_reducible rfl)
        refine last_norm (a' := ?_) ?_ ?_
        rotate_left
        · (go_simp; with_reducible rfl)
        refine last_take 15 (v := ?_) rfl (by kernel_rfl) (by kernel_rfl) (by kernel_rfl) (by kernel_rfl) (fun _ _ _ h => h) (by rfl) ?_ hS0 ?_
        rotate_left
        · (intro W hW; have q := hW.2.2.2.cellAt t (by omega); have ql : b0 < W.heap.size := own_lt hW.2.2.2 b0 rfl; rw [hvq] at q; go_simp; with_reducible rfl)
        refine last_norm (a' := ?_) ?_ ?_
        rotate_left
        · (go_simp; with_reducible rfl)
        refine last_take 16 (v := ?_) rfl (by kernel_rfl) (by kernel_rfl) (by kernel_rfl) (by kernel_rfl) (fun _ _ _ h => h) (by rfl) ?_ hS0 ?_
        rotate_left
        · (intro W hW; obtain ⟨ql, q0, q1, q2, q3, q4, q5, q6, q7, q8⟩ := blok9c hW.2.1; go_simp; with_reducible rfl)
        refine last_norm (a' := ?_) ?_ ?_
        rotate_left
        · (go_simp; with_reducible rfl)
        refine last_call 17 (by kernel_rfl) (by kernel_rfl) rfl (by rfl) (fun K hK => ?_)
        go_simp
        go_wp2_with fail
        have HDa := Lib.hid (HD.out.more ((Grew.refl Wz.drew).alloc (.cells #[.int .i64 x.op, .string x.tab, .string x.name, .int .i64 x.t, .int .i64 x.c, .int .i64 x.vk, .int .i64 x.vi, .string x.vs, .slice PA x.l.length ka] 27)))
        have hSa : Blok (Wz.drew.alloc (.cells #[.int .i64 x.op, .string x.tab, .string x.name, .int .i64 x.t, .int .i64 x.c, .int .i64 x.vk, .int .i64 x.vi, .string x.vs, .slice PA x.l.length ka] 27)) g 44 #[.int .i64 core, .slice (some ⟨b0, 0, none⟩) vs.length kS, vE, vR, vL, vW] ∧ Blok (Wz.drew.alloc (.cells #[.int .i64 x.op, .string x.tab, .string x.name, .int .i64 x.t, .int .i64 x.c, .int .i64 x.vk, .int .i64 x.vi, .string x.vs, .slice PA x.l.length ka] 27)) bx 27 #[.int .i64 x.op, .string x.tab, .string x.name, .int .i64 x.t, .int .i64 x.c, .int .i64 x.vk, .int .i64 x.vi, .string x.vs, .slice PA x.l.length ka] ∧ Row (Wz.drew.alloc (.cells #[.int .i64 x.op, .string x.tab, .string x.name, .int .i64 x.t, .int .i64 x.c, .int .i64 x.vk, .int .i64 x.vi, .string x.vs, .slice PA x.l.length ka] 27)) (some ⟨bu, ou, none⟩) (iV [(t : Int)]) ∧ (Wz.drew.alloc (.cells #[.int .i64 x.op, .string x.tab, .string x.name, .int .i64 x.t, .int .i64 x.c, .int .i64 x.vk, .int .i64 x.vi, .string x.vs, .slice PA x.l.length ka] 27)).ownsRow base 22 1 (.slice (some ⟨b0, 0, none⟩) vs.length kS) vs.length vs := ⟨HDa.out.blk, hS0.2.1.alloc _, hS0.2.2.1.grew ((Grew.refl _).alloc _), HDa.out.outer⟩
        refine hK.out _ _ hSa ?_
        clear hK K
        refine last_call 18 (by kernel_rfl) (by kernel_rfl) rfl (by rfl) (fun K hK => ?_)
        refine wp_appC (.tmp 107) (.tmp 109) 22 27 9 rfl base (.agg #[.int .i64 0, .string ⟨#[]⟩, .string ⟨#[]⟩, .int .i64 0, .int .i64 0, .int .i64 0, .int .i64 0, .string ⟨#[]⟩, .slice none 0 0]) 112 Try.underlying22 infoE rfl (by decide) (by decide) _ lq.length _ rfl (own_alloc (own_grewE HON.out (Grew.refl Wz).drew) _) _ 1 1 (exC x PA ka) rfl rfl (row_new Wz.drew _ _ #[.int .i64 x.op, .string x.tab, .string x.name, .int .i64 x.t, .int .i64 x.c, .int .i64 x.vk, .int .i64 x.vi, .string x.vs, .slice PA x.l.length ka] rfl) (exC_one _ _ _) (by omega) HDa.out.size ?_
        intro A6 c6' w6 ho6 hg6 hor6
        have hS6 : Blok w6 g 44 #[.int .i64 core, .slice (some ⟨b0, 0, none⟩) vs.length kS, vE, vR, vL, vW] ∧ Blok w6 bx 27 #[.int .i64 x.op, .string x.tab, .string x.name, .int .i64 x.t, .int .i64 x.c, .int .i64 x.vk, .int .i64 x.vi, .string x.vs, .slice PA x.l.length ka] ∧ Row w6 (some ⟨bu, ou, none⟩) (iV [(t : Int)]) ∧ w6.ownsRow base 22 1 (.slice (some ⟨b0, 0, none⟩) vs.length kS) vs.length vs := scan_kept hSa hg6 HDa.out HON.out (fun _ _ => own_alloc (own_grewE HON.out (Grew.refl Wz).drew) _) HLq.out hbbu
        have HSf := Lib.hid (HDa.out.putS (b0 := b0) rfl hvq hsq (ExSl.snoc HCS.out HPA.out ho6) hg6 hor6)
        refine hK.out _ _ hS6 ?_
        clear hK K
        refine last_take 19 (v := ?_) rfl (by kernel_rfl) (by kernel_rfl) (by kernel_rfl) (by kernel_rfl) (fun _ _ _ h => h) (by rfl) ?_ hS6 ?_
        rotate_left
        · (intro W hW; go_simp; with_reducible rfl)
        refine last_norm (a' := ?_) ?_ ?_
        rotate_left
        · (go_simp; with_reducible rfl)
        have z2 := hS6.2.2.2.frozenAt t
        have zc := hS6.2.2.2.cellAt t (by omega)
        rw [hvq] at zc
        have zl : b0 < w6.heap.size := own_lt hS6.2.2.2 b0 rfl
        refine last_last (by kernel_rfl) (by kernel_rfl) rfl (by rfl) (fun K hK => ?_)
        go_simp
        go_wp2_with fail
        refine hK.out _ _ ?_
        clear hK K
        have HF := Lib.hid (HFin.out _ _ _ _ _ (HWp.out _ _ _ _ _ HSf.out))
        clear HSf HFin hS6 hSa hS0 z2 zc zl hor6 hg6 ho6 HD HDa HON HS HBX HRU
        go_wp2
        first | go_end0 | skip
        exact HF.out
      · have HK := Lib.hid hK
        clear hK
        go_simp
        refine HK.out _ _ ?_
        clear HK K
        refine wpAny_ready (rs := [1]) (by kernel_rfl) (by simp) ?_
        refine AllReady.cons rfl (fun K hK => ?_) AllReady.nil
        have HK := Lib.hid hK
        clear hK
        go_simp
        refine HK.out _ _ ?_
        clear HK K
        refine wpAny_ready (rs := [3]) (by kernel_rfl) (by simp) ?_
        refine AllReady.cons rfl (fun K hK => ?_) AllReady.nil
        have HK := Lib.hid hK
        clear hK
        go_simp
        refine HK.out _ _ ?_
        clear HK K
        refine ⟨by kernel_rfl, ?_⟩
        have hgz : Grew W (W.alloc (.cells #[.bool true] 4)).drew := ((Grew.refl W).alloc _).drew
        have HSz := Lib.hid (HS.out.more hgz)
        have HBXz := Lib.hid (HBX.out.grew hgz)
        have HRUz := Lib.hid (HRU.out.grew hgz)
        clear hgz HS HBX HRU hc0 hbu HBE HI0 HI1
        generalize (W.alloc (.cells #[.bool true] 4)).drew = Wz at *
        generalize W.heap.size = bz at *
        have HS := HSz
        have HBX := HBXz
        have HRU := HRUz
        clear HSz HBXz HRUz W
        go_upto_region 10 with fail
        obtain ⟨b0, capS, hvS, hb01, hb02⟩ := World.ownsRow.form HS.out.outer (by omega)
        injection hvS with hvS1 _ hvS3
        subst hvS1 hvS3
        have hvq : vs[t]? = some vs[t] := List.getElem?_eq_getElem htl
        obtain ⟨AN, cN, hvN, css, hcs, hoN⟩ := HS.out.bins.each (t + 2) vs[t] lq (by simp) (by simpa using hsq)
        have HCS := Lib.hid hcs
        have HON := Lib.hid hoN
        have hlen := hcs.flat
        have HLq : Hid (∀ i, (Value.slice AN lq.length cN).ownBlock = some i → i < bx) := Lib.hid fun i hi => HLS.out t vs[t] lq hvq hsq i (by rw [hvN]; exact hi)
        rw [hvN] at hvq
        clear hcs hoN hvN
        have HD := Lib.hid (HS.out.more (Grew.refl Wz).drew)
        have hS0 : Blok Wz.drew g 44 #[.int .i64 core, .slice (some ⟨b0, 0, none⟩) vs.length kS, vE, vR, vL, vW] ∧ Blok Wz.drew bx 27 #[.int .i64 x.op, .string x.tab, .string x.name, .int .i64 x.t, .int .i64 x.c, .int .i64 x.vk, .int .i64 x.vi, .string x.vs, .slice PA x.l.length ka] ∧ Row Wz.drew (some ⟨bu, ou, none⟩) (iV [(t : Int)]) ∧ Wz.drew.ownsRow base 22 1 (.slice (some ⟨b0, 0, none⟩) vs.length kS) vs.length vs := ⟨HD.out.blk, HBX.out.grew (Grew.refl Wz).drew, HRU.out.grew (Grew.refl Wz).drew, HD.out.outer⟩
        refine wp_region_last (fun W => Blok W g 44 #[.int .i64 core, .slice (some ⟨b0, 0, none⟩) vs.length kS, vE, vR, vL, vW] ∧ Blok W bx 27 #[.int .i64 x.op, .string x.tab, .string x.name, .int .i64 x.t, .int .i64 x.c, .int .i64 x.vk, .int .i64 x.vi, .string x.vs, .slice PA x.l.length ka] ∧ Row W (some ⟨bu, ou, none⟩) (iV [(t : Int)]) ∧ W.ownsRow base 22 1 (.slice (some ⟨b0, 0, none⟩) vs.length kS) vs.length vs) 14 rfl (by kernel_rfl) ?_
        refine last_take 0 (v := ?_) rfl (by kernel_rfl) (by kernel_rfl) (by kernel_rfl) (by kernel_rfl) (fun _ _ _ h => h) (by rfl) ?_ hS0 ?_
        rotate_left
        · (intro W hW; go_simp; with_reducible rfl)
        refine last_take 1 (v := ?_) rfl (by kernel_rfl) (by kernel_rfl) (by kernel_rfl) (by kernel_rfl) (fun _ _ _ h => h) (by rfl) ?_ hS0 ?_
        rotate_left
        · (intro W hW; go_simp; with_reducible rfl)
        refine last_take 2 (v := ?_) rfl (by kernel_rfl) (by kernel_rfl) (by kernel_rfl) (by kernel_rfl) (fun _ _ _ h => h) (by rfl) ?_ hS0 ?_
        rotate_left
        · (intro W hW; go_simp; with_reducible rfl)
        refine last_norm (a' := ?_) ?_ ?_
        rotate_left
        · (go_simp; with_reducible rfl)
        refine last_take 3 (v := ?_) rfl (by kernel_rfl) (by kernel_rfl) (by kernel_rfl) (by kernel_rfl) (fun _ _ _ h => h) (by rfl) ?_ hS0 ?_
        rotate_left
        · (intro W hW; have q := hW.1.cell 1; have ql := hW.1.lt; simp at q; go_simp; with_reducible rfl)
        refine last_norm (a' := ?_) ?_ ?_
        rotate_left
        · (go_simp; with_reducible rfl)
        refine last_take 4 (v := ?_) rfl (by kernel_rfl) (by kernel_rfl) (by kernel_rfl) (by kernel_rfl) (fun _ _ _ h => h) (by rfl) ?_ hS0 ?_
        rotate_left
        · (intro W hW; go_simp; with_reducible rfl)
        refine last_take 5 (v := ?_) rfl (by kernel_rfl) (by kernel_rfl) (by kernel_rfl) (by kernel_rfl) (fun _ _ _ h => h) (by rfl) ?_ hS0 ?_
        rotate_left
        · (intro W hW; go_simp; with_reducible rfl)
        refine last_norm (a' := ?_) ?_ ?_
        rotate_left
        · (go_simp; with_reducible rfl)
        refine last_take 6 (v := ?_) rfl (by kernel_rfl) (by kernel_rfl) (by kernel_rfl) (by kernel_rfl) (fun _ _ _ h => h) (by rfl) ?_ hS0 ?_
        rotate_left
        · (intro W hW; obtain ⟨bu', ou', hbe', hbl', hbc'⟩ := rowI_at hW.2.2.1 (j := 0) (by simp); cases hbe'; simp at hbc'; go_simp; with_reducible rfl)
        refine last_norm (a' := ?_) ?_ ?_
        rotate_left
        · (go_simp; with_reducible rfl)
        refine last_take 7 (v := ?_) rfl (by kernel_rfl) (by kernel_rfl) (by kernel_rfl) (by kernel_rfl) (fun _ _ _ h => h) (by rfl) ?_ hS0 ?_
        rotate_left
        · (intro W hW; go_simp; with_reducible rfl)
        refine last_norm (a' := ?_) ?_ ?_
        rotate_left
        · (go_simp; with_reducible rfl)
        refine last_take 8 (v := ?_) rfl (by kernel_rfl) (by kernel_rfl) (by kernel_rfl) (by kernel_rfl) (fun _ _ _ h => h) (by rfl) ?_ hS0 ?_
        rotate_left
        · (intro W hW; have q := hW.2.2.2.cellAt t (by omega); have ql : b0 < W.heap.size := own_lt hW.2.2.2 b0 rfl; rw [hvq] at q; go_simp; with_reducible rfl)
        refine last_norm (a' := ?_) ?_ ?_
        rotate_left
        · (go_simp; with_reducible rfl)
        refine last_take 9 (v := ?_) rfl (by kernel_rfl) (by kernel_rfl) (by kernel_rfl) (by kernel_rfl) (fun _ _ _ h => h) (by rfl) ?_ hS0 ?_
        rotate_left
        · (intro W hW; obtain ⟨ql, q0, q1, q2, q3, q4, q5, q6, q7, q8⟩ := blok9c hW.2.1; go_simp; with_reducible rfl)
        refine last_norm (a' := ?_) ?_ ?_
        rotate_left
        · (go_simp; with_reducible rfl)
        refine last_take 10 (v := ?_) rfl (by kernel_rfl) (by kernel_rfl) (by kernel_rfl) (by kernel_rfl) (fun _ _ _ h => h) (by rfl) ?_ hS0 ?_
        rotate_left
        · (intro W hW; go_simp; with_reducible rfl)
        refine last_norm (a' := ?_) ?_ ?_
        rotate_left
        · (go_simp; with_reducible rfl)
        refine last_call 11 (by kernel_rfl) (by kernel_rfl) rfl (by rfl) (fun K hK => ?_)
        go_simp
        go_wp2_with fail
        have HDa := Lib.hid (HD.out.more ((Grew.refl Wz.drew).alloc (.cells #[.int .i64 0, .string ⟨#[]⟩, .string ⟨#[]⟩, .int .i64 0, .int .i64 0, .int .i64 0, .int .i64 0, .string ⟨#[]⟩, .slice none 0 0] 27)))
        have hSa : Blok (Wz.drew.alloc (.cells #[.int .i64 0, .string ⟨#[]⟩, .string ⟨#[]⟩, .int .i64 0, .int .i64 0, .int .i64 0, .int .i64 0, .string ⟨#[]⟩, .slice none 0 0] 27)) g 44 #[.int .i64 core, .slice (some ⟨b0, 0, none⟩) vs.length kS, vE, vR, vL, vW] ∧ Blok (Wz.drew.alloc (.cells #[.int .i64 0, .string ⟨#[]⟩, .string ⟨#[]⟩, .int .i64 0, .int .i64 0, .int .i64 0, .int .i64 0, .string ⟨#[]⟩, .slice none 0 0] 27)) bx 27 #[.int .i64 x.op, .string x.tab, .string x.name, .int .i64 x.t, .int .i64 x.c, .int .i64 x.vk, .int .i64 x.vi, .string x.vs, .slice PA x.l.length ka] ∧ Row (Wz.drew.alloc (.cells #[.int .i64 0, .string ⟨#[]⟩, .string ⟨#[]⟩, .int .i64 0, .int .i64 0, .int .i64 0, .int .i64 0, .string ⟨#[]⟩, .slice none 0 0] 27)) (some ⟨bu, ou, none⟩) (iV [(t : Int)]) ∧ (Wz.drew.alloc (.cells #[.int .i64 0, .string ⟨#[]⟩, .string ⟨#[]⟩, .int .i64 0, .int .i64 0, .int .i64 0, .int .i64 0, .string ⟨#[]⟩, .slice none 0 0] 27)).ownsRow base 22 1 (.slice (some ⟨b0, 0, none⟩) vs.length kS) vs.length vs := ⟨HDa.out.blk, hS0.2.1.alloc _, hS0.2.2.1.grew ((Grew.refl _).alloc _), HDa.out.outer⟩
        refine hK.out _ _ hSa ?_
        clear hK K
        refine last_call 12 (by kernel_rfl) (by kernel_rfl) rfl (by rfl) (fun K hK => ?_)
        refine wp_appC (.tmp 85) (.tmp 88) 22 27 9 rfl base (.agg #[.int .i64 0, .string ⟨#[]⟩, .string ⟨#[]⟩, .int .i64 0, .int .i64 0, .int .i64 0, .int .i64 0, .string ⟨#[]⟩, .slice none 0 0]) 112 Try.underlying22 infoE rfl (by decide) (by decide) _ lq.length _ rfl (own_alloc (own_grewE HON.out (Grew.refl Wz).drew) _) _ 1 1 [.int .i64 0, .string ⟨#[]⟩, .string ⟨#[]⟩, .int .i64 0, .int .i64 0, .int .i64 0, .int .i64 0, .string ⟨#[]⟩, .slice none 0 0] rfl rfl (row_new Wz.drew _ _ #[.int .i64 0, .string ⟨#[]⟩, .string ⟨#[]⟩, .int .i64 0, .int .i64 0, .int .i64 0, .int .i64 0, .string ⟨#[]⟩, .slice none 0 0] rfl) (by intro u hu; simp only [List.mem_cons, List.not_mem_nil, or_false] at hu; rcases hu with rfl | rfl | rfl | rfl | rfl | rfl | rfl | rfl | rfl <;> rfl) (by omega) HDa.out.size ?_
        intro A6 c6' w6 ho6 hg6 hor6
        have hS6 : Blok w6 g 44 #[.int .i64 core, .slice (some ⟨b0, 0, none⟩) vs.length kS, vE, vR, vL, vW] ∧ Blok w6 bx 27 #[.int .i64 x.op, .string x.tab, .string x.name, .int .i64 x.t, .int .i64 x.c, .int .i64 x.vk, .int .i64 x.vi, .string x.vs, .slice PA x.l.length ka] ∧ Row w6 (some ⟨bu, ou, none⟩) (iV [(t : Int)]) ∧ w6.ownsRow base 22 1 (.slice (some ⟨b0, 0, none⟩) vs.length kS) vs.length vs := scan_kept hSa hg6 HDa.out HON.out (fun _ _ => own_alloc (own_grewE HON.out (Grew.refl Wz).drew) _) HLq.out hbbu
        refine hK.out _ _ hS6 ?_
        clear hK K
        refine last_take 13 (v := ?_) rfl (by kernel_rfl) (by kernel_rfl) (by kernel_rfl) (by kernel_rfl) (fun _ _ _ h => h) (by rfl) ?_ hS6 ?_
        rotate_left
        · (intro W hW; go_simp; with_reducible rfl)
        refine last_norm (a' := ?_) ?_ ?_
        rotate_left
        · (go_simp; with_reducible rfl)
        obtain ⟨gb, cap, hv, hgb1, hgb2⟩ := World.ownsRow.form ho6 (by omega)
        injection hv with hv1 _ hv3
        subst hv1 hv3
        have hne0 : gb ≠ b0 := fun e => type_apart ho6 hS6.2.2.2 (by decide) gb rfl (by rw [e]; rfl)
        have z2 := hS6.2.2.2.frozenAt t
        have zc := hS6.2.2.2.cellAt t (by omega)
        rw [hvq] at zc
        have zl : b0 < w6.heap.size := own_lt hS6.2.2.2 b0 rfl
        refine last_last (by kernel_rfl) (by kernel_rfl) rfl (by rfl) (fun K hK => ?_)
        go_simp
        go_wp2_with fail
        refine hK.out _ _ ?_
        clear hK K
        have HO7 := Lib.hid (own_nine ho6 hlen (.int .i64 x.op) (.string x.tab) (.string x.name) (.int .i64 x.t) (.int .i64 x.c) (.int .i64 x.vk) (.int .i64 x.vi) (.string x.vs) (.slice PA x.l.length ka))
        have HG7 := Lib.hid (grown_nine (p := lq.length * 9) hg6 (hor6.elim (fun h => Or.inl h.symm) (fun h => Or.inr (by cases h; exact Nat.le_refl _))) (.int .i64 x.op) (.string x.tab) (.string x.name) (.int .i64 x.t) (.int .i64 x.c) (.int .i64 x.vk) (.int .i64 x.vi) (.string x.vs) (.slice PA x.l.length ka))
        have HSf := Lib.hid (HDa.out.putS (b0 := b0) rfl hvq hsq (ExSl.snoc (x := x) (ka := ka) HCS.out HPA.out HO7.out) HG7.out hor6)
        have HCm := Lib.hid (nine_comm w6 (g := b0) (b := gb) (j := t) (p := lq.length * 9) (Ne.symm hne0) (.slice (some ⟨gb, 0, none⟩) (lq.length + 1) c6') (.int .i64 x.op) (.string x.tab) (.string x.name) (.int .i64 x.t) (.int .i64 x.c) (.int .i64 x.vk) (.int .i64 x.vi) (.string x.vs) (.slice PA x.l.length ka))
        have HF := Lib.hid (HFin.out _ _ _ _ _ (HWp.out _ _ _ _ _ HSf.out))
        have HF2 : Hid (PutF pr u v base g core (some ⟨b0, 0, none⟩) kS vL (l ++ [x]) (.returned (.tuple #[])) _) := Lib.hid (HCm.out ▸ HF.out)
        have HO8 := Lib.hid (own_aside2 ho6 (p := ⟨b0, t, none⟩) (fun q hq => by cases hq; exact hne0) (.slice (some ⟨gb, 0, none⟩) (lq.length + 1) c6'))
        clear HF HSf HFin HCm HO7 HG7 hS6 hSa hS0 z2 zc zl hor6 hg6 ho6 HD HDa HON HS HBX HRU
        generalize (w6.setCell ⟨b0, t, none⟩ (.slice (some ⟨gb, 0, none⟩) (lq.length + 1) c6')) = W8 at *
        have z0 := HO8.out.frozenAt (lq.length * 9)
        have z1 := HO8.out.frozenAt (lq.length * 9 + 1)
        have z2 := HO8.out.frozenAt (lq.length * 9 + 2)
        have z3 := HO8.out.frozenAt (lq.length * 9 + 3)
        have z4 := HO8.out.frozenAt (lq.length * 9 + 4)
        have z5 := HO8.out.frozenAt (lq.length * 9 + 5)
        have z6 := HO8.out.frozenAt (lq.length * 9 + 6)
        have z7 := HO8.out.frozenAt (lq.length * 9 + 7)
        have z8 := HO8.out.frozenAt (lq.length * 9 + 8)
        obtain ⟨q0, q1, q2, q3, q4, q5, q6, q7, q8⟩ := cells_nine HO8.out hlen (by omega)
        have hgl8 : gb < W8.heap.size := own_lt HO8.out gb rfl
        have hlt1 : (lq.length : Int) < (lq.length : Int) + 1 := by omega
        clear HO8
        go_wp2
        first | go_end0 | skip
        exact HF2.out
end Go.Proofs.Ytchogpdfdpbpfaa

/- Layer 16: parts in a row of one's own; rows that are let alone; lists of tables behind the core. No condition. -/
namespace Go.Proofs.Ytchogpdfdpbpfaa
open Go.RowKit
attribute [local go_sem] more_cell more_frozen more_more more_setCell more_of_drew more_of_drewN lt_more le_more past_cell past_cell2 past_frozen past_frozen2 past_setCell past_setCell2 mid_cell mid_frozen mid_setCell
attribute [local go_sem ↓] Go.wp_at_zero Go.wp_at_succ

/-- Parts in a row of one's own. -/
def PartsF (u w : World) (l : List Ex) (e : Ending) (w' : World) : Prop := ∃ A k, e = .returned (.slice A l.length k) ∧ Grew w w' ∧ ExOwn u w' w.heap.size A k l
set_option maxHeartbeats 1000000 in
theorem parts_own (x : Ex) (A : Option Addr) (k : Nat) (hx : x.nodes ≤ 1000000) (u w : World) (hg : Grew u w) (ra : ExsR (PRow u) A x.l) : Calls Try.prog 19 #[exV x A k] w (PartsF u w (partsX x)) := by
  have HC : Hid (∀ W g c base, GathP u w W (fun _ => False) W base g c [] → Calls Try.prog 49 #[exV x A k, .pointer (some ⟨g, 0, none⟩), .pointer (some ⟨c, 0, none⟩)] W (GathPR u w W (fun _ => False) base g c ([] ++ partsX x))) := Lib.hid fun W g c base h1 =>
    partsc_ex _ x (Nat.lt_succ_self _) A k g c base [] u w W W _ (by simpa using hx) h1.keep.low.1 h1.keep.low.2.1 h1.keep.low.2.2.1 h1.keep.low.2.2.2 ra h1
  have HG := Lib.hid hg
  clear ra hx hg
  generalize partsX x = n at *
  unfold exV at *
  go_enter Try.func19, Try.ntmps19
  go_wp2_with fail
  refine (HC.out _ _ _ (w.heap.size + 1 + 1 + 1) ⟨⟨((Grew.refl w).alloc _).alloc _ |>.alloc _, Blok.new _ _ _ _ (by simp), by simp, fun _ h => h.elim, fun _ h => h.elim, fun h => h, by simp⟩, HG.out, ⟨none, 0, (Blok.new _ _ _ _ (by simp)).alloc _, ⟨[], ListR.nil, own_none _ _ _ _⟩, fun _ _ h => h⟩⟩).mono ?_
  rintro e w2 ⟨rfl, hg2⟩
  obtain ⟨A2, k2, hb2, ho2, _⟩ := hg2.out
  rw [List.nil_append] at hb2 ho2
  have HG2 := Lib.hid hg2.keep.grew
  have HX : Hid (ExOwn u w2 w.heap.size A2 k2 n) := Lib.hid (by
    obtain ⟨css, h1, h2⟩ := ho2
    exact ⟨css, h1, own_le h2 (by omega)⟩)
  have c0 := hb2.cell 0
  have hl := hb2.lt
  simp at c0
  clear hg2 hb2 ho2
  go_wp2
  go_ret
  exact ⟨A2, k2, rfl, HG2.out, HX.out⟩
/-- Nothing else is named. -/
def noP : Nat → Prop := fun _ => False
section
variable {u v w w' : World} {base g : Nat} {core : Int} {sc : List (List Ex)} {es : List Ed} {rs wh : List Ex} {A : Option Addr} {k : Nat} {vs : List Value} {vE vR vL vW : Value}
theorem Nst.lts {pr : Nat → Prop} (h : Nst pr u v w base g core sc es rs wh A k vs vE vR vL vW) : ∀ x, x ∈ (.slice A vs.length k) :: vE :: vR :: vW :: vs → ∀ i, x.ownBlock = some i → i < w.heap.size := fun x hx i hi => by
  simp only [List.mem_cons] at hx
  rcases hx with rfl | rfl | rfl | rfl | hx
  · exact own_lt h.outer i hi
  · obtain ⟨_, _, rfl, ho⟩ := h.edges
    exact own_lt ho i hi
  · obtain ⟨_, _, ho⟩ := (h.bins.each 0 _ rs rfl rfl).own
    exact own_lt ho i hi
  · obtain ⟨_, _, ho⟩ := (h.bins.each 1 _ wh rfl rfl).own
    exact own_lt ho i hi
  · obtain ⟨q, hq, rfl⟩ := List.getElem_of_mem hx
    have hs : q < sc.length := by rw [← h.sizes]; exact hq
    obtain ⟨_, _, ho⟩ := (h.bins.each (q + 2) vs[q] sc[q] (by simp) (by simp [hs])).own
    exact own_lt ho i hi
/-- A row that was made behind is let alone. -/
theorem Nst.guard (h : Nst noP u v w base g core sc es rs wh A k vs vE vR vL vW) (hg : Grew w w') {e : TypeId} {size n : Nat} {x : Value} {xs : List Value} (ho : w'.ownsRow w.heap.size e size x n xs) :
    Nst (fun i => x.ownBlock = some i) u w' w' base g core sc es rs wh A k vs vE vR vL vW := by
  have h' := h.more hg
  have hb := own_base ho
  have hs := h.size
  have hl := h.low.2
  exact ⟨h'.blk, h'.outer, h'.bins, h'.edges, h'.grew, h'.size, h'.low, fun _ _ _ => rfl, fun i hi => ⟨by have := hb i hi; omega, own_lt ho i hi, rfl⟩, fun y hy i hi hp => by
    have h1 := h.lts y hy i hi
    have h2 := hb i hp
    omega⟩
theorem Nst.leave {pr : Nat → Prop} {v' : World} {sc' : List (List Ex)} {es' : List Ed} {rs' wh' : List Ex} {A' : Option Addr} {k' : Nat} {vs' : List Value} {vE' vR' vL' vW' : Value} (h : Nst pr u v' w base g core sc es rs wh A k vs vE vR vL vW) (h' : Nst noP u v v' base g core sc' es' rs' wh' A' k' vs' vE' vR' vL' vW') : Nst noP u v w base g core sc es rs wh A k vs vE vR vL vW :=
  ⟨h.blk, h.outer, h.bins, h.edges, h.grew, h.size, h.low, fun i hi hn => (h.kept i hi hn).trans (h'.kept i hi hn), fun _ hp => hp.elim, fun _ _ _ _ hp => hp⟩
theorem own_same {e : TypeId} {size n B : Nat} {x : Value} {xs : List Value} (ho : w.ownsRow B e size x n xs) (hs : ∀ i, x.ownBlock = some i → w'.heap[i]? = w.heap[i]?) : w'.ownsRow B e size x n xs := by
  refine ⟨ho.1, ?_⟩
  rcases ho.2 with q | ⟨q, cap, cur, rfl, hb, hh, r⟩
  · exact Or.inl q
  · exact Or.inr ⟨q, cap, cur, rfl, hb, by rw [hs q rfl]; exact hh, r⟩
end
theorem infoEx : (Try.prog.info? 22).map (fun i => (i.zero, i.size, i.bytes)) = some (some (.slice none 0 0), 1, 24) := by kernel_rfl
/-- The parts of the joins' conditions of the core, up to a place; all conditions of the core. -/
def allP (sr : List Fr) (i : Nat) : List Ex := (((sr.take i).drop 1).map fun f => partsX f.on).flatten
def allX (sr : List Fr) (wh : Ex) (core : Nat) : List Ex := allP sr core ++ partsX wh
def latesX (sr : List Fr) (core n : Nat) : List La := (List.range n).map fun i => lateX (sr.getD (core + i) default) ((core + i : Nat) : Int)
def normX (sr : List Fr) (wh : Ex) : Nm := ⟨coreN sr, nS (coreN sr) (allX sr wh (coreN sr)), nE (coreN sr) (allX sr wh (coreN sr)), nR (coreN sr) (allX sr wh (coreN sr)), latesX sr (coreN sr) (sr.length - coreN sr), nW (coreN sr) (allX sr wh (coreN sr))⟩
theorem allP_one (sr : List Fr) : allP sr 1 = [] := by
  unfold allP
  have : (sr.take 1).drop 1 = [] := List.drop_of_length_le (by simp; omega)
  rw [this]
  rfl
theorem allP_succ (sr : List Fr) {i : Nat} (h1 : 1 ≤ i) (h : i < sr.length) : allP sr (i + 1) = allP sr i ++ partsX sr[i].on := by
  unfold allP
  rw [List.take_succ_eq_append_getElem h, List.drop_append_of_le_length (by rw [List.length_take]; omega), List.map_append, List.flatten_append]
  simp
theorem allP_zero (sr : List Fr) : allP sr 0 = [] := rfl
theorem allP_len (sr : List Fr) (hn : ∀ f ∈ sr, f.on.nodes ≤ 200) (i : Nat) : (allP sr i).length ≤ 200 * sr.length := by
  have : ∀ l : List Fr, (∀ f ∈ l, f.on.nodes ≤ 200) → ((l.map fun f => partsX f.on).flatten).length ≤ 200 * l.length := fun l => by
    induction l with
    | nil => intro _; simp
    | cons f l ih =>
      intro h
      have h1 := ih fun g hg => h g (by simp [hg])
      have h2 := partsX_len f.on
      have h3 := h f (by simp)
      simp only [List.map_cons, List.flatten_cons, List.length_append, List.length_cons]
      omega
  have h := this ((sr.take i).drop 1) fun f hf => hn f (List.mem_of_mem_take (List.mem_of_mem_drop hf))
  have h2 : ((sr.take i).drop 1).length ≤ sr.length := by rw [List.length_drop, List.length_take]; omega
  unfold allP
  omega
theorem allP_nodes (sr : List Fr) (hn : ∀ f ∈ sr, f.on.nodes ≤ 200) (i : Nat) : ∀ y ∈ allP sr i, y.nodes ≤ 200 := by
  intro y hy
  unfold allP at hy
  obtain ⟨l, hl, hyl⟩ := List.mem_flatten.1 hy
  obtain ⟨f, hf, rfl⟩ := List.mem_map.1 hl
  exact Nat.le_trans (partsX_nodes f.on y hyl) (hn f (List.mem_of_mem_take (List.mem_of_mem_drop hf)))
/-- A list of tables behind the core in a row of one's own. -/
def ExT (u w : World) (base : Nat) (v : Value) (l : List Ex) : Prop := ∃ A c css, v = .slice A l.length c ∧ ListR (ExR (PRow u)) 9 l css ∧ TRow base w 27 A css.flatten
def EdT (w : World) (base : Nat) (v : Value) (l : List Ed) : Prop := ∃ A c, v = .slice A l.length c ∧ TRow base w 34 A (edsC l)
def LaU (u w : World) (base : Nat) (x : La) (cs : List Value) : Prop := ∃ vK vS vR, cs = [.int .i64 x.table, .int .i64 x.join, vK, vS, vR] ∧ EdT w base vK x.keys ∧ ExT u w base vS x.scan ∧ ExT u w base vR x.rest
def LaSl (u w : World) (base : Nat) (v : Value) (l : List La) : Prop := ∃ A c css, v = .slice A l.length c ∧ ListR (LaU u w base) 5 l css ∧ w.ownsRow base 72 5 v l.length css.flatten
theorem LaU.map {u w w' : World} {base : Nat} {x : La} {cs : List Value} (h : LaU u w base x cs) (h1 : ∀ A xs, TRow base w 34 A xs → TRow base w' 34 A xs) (h2 : ∀ A xs, TRow base w 27 A xs → TRow base w' 27 A xs) : LaU u w' base x cs := by
  obtain ⟨vK, vS, vR, rfl, ⟨A, c, e1, q1⟩, ⟨B, d, css, e2, r2, q2⟩, ⟨C, f, dss, e3, r3, q3⟩⟩ := h
  exact ⟨vK, vS, vR, rfl, ⟨A, c, e1, h1 _ _ q1⟩, ⟨B, d, css, e2, r2, h2 _ _ q2⟩, ⟨C, f, dss, e3, r3, h2 _ _ q3⟩⟩
theorem LaSl.more {u w w' : World} {base : Nat} {v : Value} {l : List La} (h : LaSl u w base v l) (g : Grew w w') : LaSl u w' base v l := by
  obtain ⟨A, c, css, e, h1, h2⟩ := h
  exact ⟨A, c, css, e, h1.map fun x cs hx => hx.map (fun _ _ q => q.grew g) (fun _ _ q => q.grew g), own_grewE h2 g⟩
theorem LaSl.nil (u w : World) (base : Nat) : LaSl u w base (.slice none 0 0) [] := ⟨none, 0, [], rfl, ListR.nil, own_none _ _ _ _⟩
theorem infoLa : (Try.prog.info? 72).map (fun i => (i.zero, i.size, i.bytes)) = some (some (.agg #[.int .i64 0, .int .i64 0, .slice none 0 0, .slice none 0 0, .slice none 0 0]), 5, 88) := by kernel_rfl
/-- What late hands back, as an element. -/
theorem late_elem {u v w : World} {base : Nat} {x : La} {vK vS vR : Value} (hb : base ≤ v.heap.size) (hK : EdSl w v.heap.size vK x.keys) (hB : Bins u w v.heap.size [vS, vR] [x.scan, x.rest]) : LaU u w base x [.int .i64 x.table, .int .i64 x.join, vK, vS, vR] := by
  obtain ⟨A, c, e1, o1⟩ := hK
  obtain ⟨B, d, e2, css, r2, o2⟩ := hB.each 0 vS x.scan rfl rfl
  obtain ⟨C, f, e3, dss, r3, o3⟩ := hB.each 1 vR x.rest rfl rfl
  subst e1 e2 e3
  exact ⟨_, _, _, rfl, ⟨A, c, rfl, TRow.own (own_le o1 hb)⟩, ⟨B, d, css, rfl, r2, TRow.own (own_le o2 hb)⟩, ⟨C, f, dss, rfl, r3, TRow.own (own_le o3 hb)⟩⟩
/-- What comes back: a query's conditions. -/
def NormF (u : World) (x : Nm) (e : Ending) (w' : World) : Prop := ∃ A k B j C c D d E f, e = .returned (.agg (nmC x A k B j C c D d E f)) ∧ Grew u w' ∧ NmR (PRow w') x A B C D E
end Go.Proofs.Ytchogpdfdpbpfaa

/- Layer 16: the beginning of a query's conditions. No condition. -/
namespace Go.Proofs.Ytchogpdfdpbpfaa
open Go.RowKit
theorem nS_nil (core : Nat) : nS core [] = List.replicate core [] := by
  refine List.ext_getElem (by simp [nS]) fun i h1 h2 => ?_
  simp [nS, nT]
theorem of_start {u v : World} {g core : Nat} (hb : Blok v g 44 #[.int .i64 core, .slice none 0 0, .slice none 0 0, .slice none 0 0, .slice none 0 0, .slice none 0 0]) (hg : Grew u v) (hu : u.heap.size ≤ g) (hc : core ≤ 1000000) :
    Nst noP u v ((v.setCell ⟨g, 1, none⟩ (.slice (some ⟨v.heap.size, 0, none⟩) core core)).alloc (.cells (madeCells #[.slice none 0 0] core) 22)) v.heap.size g core (nS core []) (nE core []) (nR core []) (nW core []) (some ⟨v.heap.size, 0, none⟩) core (List.replicate core (.slice none 0 0)) (.slice none 0 0) (.slice none 0 0) (.slice none 0 0) (.slice none 0 0) := by
  have hl := hb.lt
  have hm : (madeCells #[Value.slice none 0 0] core).toList = List.replicate core (.slice none 0 0) := toList_madeCells_one _ _
  have hsz : (madeCells #[Value.slice none 0 0] core).size = core := by
    have := congrArg List.length hm
    simpa using this
  have ho := own_lit (v.setCell ⟨g, 1, none⟩ (.slice (some ⟨v.heap.size, 0, none⟩) core core)) v.heap.size 22 1 core v.heap.size (madeCells #[.slice none 0 0] core) (by rw [World.size_setCell]) (Nat.le_refl _) (by rw [hsz, Nat.mul_one]) hc
  rw [hm] at ho
  refine ⟨?_, ?_, ?_, ?_, ((hg.setCell hu _).alloc _), by rw [World.size_alloc, World.size_setCell]; omega, ⟨hu, hl⟩, fun i hi hn => ?_, fun _ hp => hp.elim, fun _ _ _ _ hp => hp⟩
  · rw [List.length_replicate]
    exact (hb.set 1 _).alloc _
  · rw [List.length_replicate]
    exact ho
  · rw [nS_nil]
    exact Bins.nil u _ v.heap.size (core + 2)
  · exact EdSl.nil _ _
  · rw [heap_grew ((Grew.refl _).alloc _) (by rw [World.size_setCell]; exact hi), heap_set _ _ hn]
theorem trow_set {B g : Nat} {w : World} {e : TypeId} {A : Option Addr} {xs : List Value} (h : TRow B w e A xs) (hg : g < B) (j : Nat) (y : Value) : TRow B (w.setCell ⟨g, j, none⟩ y) e A xs :=
  h.block fun b _ hb _ => heap_set _ _ (by show b ≠ g; omega)
/-- One more table behind the core. -/
theorem LaSl.put {u w w' : World} {base g : Nat} {AL : Option Addr} {cL : Nat} {l : List La} {css : List (List Value)} (hc : ListR (LaU u w base) 5 l css) (ho0 : w.ownsRow base 72 5 (.slice AL l.length cL) l.length css.flatten) {x : La} {cs : List Value} (hx : LaU u w base x cs) (hcs : cs.length = 5) {A' : Option Addr} {c' : Nat}
    (ho : w'.ownsRow base 72 5 (.slice A' (l.length + 1) c') (l.length + 1) (css.flatten ++ cs)) (hgb : w.grownBy w' (Value.slice AL l.length cL).ownBlock) (hg : g < base) (y : Value) : LaSl u (w'.setCell ⟨g, 4, none⟩ y) base (.slice A' (l.length + 1) c') (l ++ [x]) := by
  have e : (l ++ [x]).length = l.length + 1 := by simp
  have hm : ∀ x cs, LaU u w base x cs → LaU u (w'.setCell ⟨g, 4, none⟩ y) base x cs := fun x cs h =>
    h.map (fun _ _ q => trow_set (q.grown ho0 (by decide) hgb) hg _ _) (fun _ _ q => trow_set (q.grown ho0 (by decide) hgb) hg _ _)
  refine ⟨A', c', css ++ [cs], by rw [e], (hc.map fun x cs h => hm x cs h).snoc (hm _ _ hx) hcs, ?_⟩
  rw [e, List.flatten_append]
  have := ownsRow_setCell_below ho (a := ⟨g, 4, none⟩) hg y
  simpa using this
theorem ExT.exs {u w : World} {base : Nat} {v : Value} {l : List Ex} (h : ExT u w base v l) (g : Grew u w) : ∃ A c, v = .slice A l.length c ∧ ExsR (PRow w) A l := by
  obtain ⟨A, c, css, e, h1, h2⟩ := h
  exact ⟨A, c, e, css, h1.map fun x cs hx => hx.grew g, h2.plain⟩
theorem ExSl.exs {u w : World} {base : Nat} {v : Value} {l : List Ex} (h : ExSl u w base v l) (g : Grew u w) : ∃ A c, v = .slice A l.length c ∧ ExsR (PRow w) A l := by
  obtain ⟨A, c, e, css, h1, h2⟩ := h
  obtain ⟨A', c', e', h3⟩ := own_row h2
  injection e' with e' _ _
  subst e'
  exact ⟨A, c, e, css, h1.map fun x cs hx => hx.grew g, h3⟩
theorem flat_one (vs : List Value) : (vs.map fun v => [v]).flatten = vs := by
  induction vs with
  | nil => rfl
  | cons v vs ih => simp [ih]
/-- What comes back, out of what was put together. -/
theorem norm_done {pr : Nat → Prop} {u v w w' : World} {base g : Nat} {core : Int} {sc : List (List Ex)} {es : List Ed} {rs wh : List Ex} {A : Option Addr} {k : Nat} {vs : List Value} {vE vR vL vW : Value} {lts : List La}
    (h : Nst pr u v w base g core sc es rs wh A k vs vE vR vL vW) (hl : LaSl u w base vL lts) (hw : ∀ i, base ≤ i → w'.heap[i]? = w.heap[i]?) (hg : Grew u w') :
    NormF u ⟨core, sc, es, rs, lts, wh⟩ (.returned (.agg #[.int .i64 core, .slice A vs.length k, vE, vR, vL, vW])) w' := by
  have hk : ∀ {e size n v xs}, w.ownsRow base e size v n xs → w'.ownsRow base e size v n xs := fun {e size n v xs} ho => own_same ho fun i hi => hw i (own_base ho i hi)
  have hex : ∀ {v l}, ExSl u w base v l → ∃ A c, v = .slice A l.length c ∧ ExsR (PRow w') A l := fun {v l} hx => (hx.keep fun xs ho => hk ho).exs hg
  obtain ⟨B, j, rfl, hB⟩ := (show EdSl w' base vE es by obtain ⟨A, c, e, ho⟩ := h.edges; exact ⟨A, c, e, hk ho⟩).eds
  obtain ⟨C, c, rfl, hC⟩ := hex (h.bins.each 0 vR rs rfl rfl)
  obtain ⟨E, f, rfl, hE⟩ := hex (h.bins.each 1 vW wh rfl rfl)
  obtain ⟨D, d, css, rfl, h1, h2⟩ := hl
  have hsz := h.sizes
  refine ⟨A, k, B, j, C, c, D, d, E, f, by unfold nmC; rw [hsz], hg, ?_, hB, hC, ?_, hE⟩
  · refine ⟨vs.map fun v => [v], ⟨by simp [hsz], fun i x cs hx hcs => ?_⟩, ?_⟩
    · rw [List.getElem?_map] at hcs
      cases hv : vs[i]? with
      | none => rw [hv] at hcs; cases hcs
      | some y =>
        rw [hv] at hcs
        injection hcs with hcs
        subst hcs
        obtain ⟨A', c', e, hx'⟩ := hex (h.bins.each (i + 2) y x (by simpa using hv) (by simpa using hx))
        subst e
        exact ⟨⟨A', c', rfl, hx'⟩, rfl⟩
    · rw [flat_one]
      obtain ⟨A', c', e', h3⟩ := own_row (hk h.outer)
      injection e' with e' _ _
      subst e'
      exact h3
  · have ht : ∀ {e A xs}, TRow base w e A xs → TRow base w' e A xs := fun {e A xs} q => q.block fun b _ hb _ => hw b hb
    refine ⟨css, h1.map fun x cs hx => ?_, ?_⟩
    · obtain ⟨vK, vS, vR, rfl, ⟨a1, c1, rfl, q1⟩, hS, hR⟩ := hx.map (fun _ _ q => ht q) (fun _ _ q => ht q)
      obtain ⟨a2, c2, rfl, q2⟩ := hS.exs hg
      obtain ⟨a3, c3, rfl, q3⟩ := hR.exs hg
      exact ⟨a1, c1, a2, c2, a3, c3, rfl, ⟨_, listR_eds _, q1.plain⟩, q2, q3⟩
    · obtain ⟨A', c', e', h3⟩ := own_row (hk h2)
      injection e' with e' _ _
      subst e'
      exact h3
end Go.Proofs.Ytchogpdfdpbpfaa

/- Layer 16: a query's conditions, by the program. Condition: a query that lies in memory that is there, of no more than a thousand sources of no more than two hundred parts each. -/
namespace Go.Proofs.Ytchogpdfdpbpfaa
open Go.RowKit
attribute [local go_sem] more_cell more_frozen more_more more_setCell more_of_drew more_of_drewN lt_more le_more past_cell past_cell2 past_frozen past_frozen2 past_setCell past_setCell2 mid_cell mid_frozen mid_setCell
attribute [local go_sem ↓] Go.wp_at_zero Go.wp_at_succ

def OfAt (u v : World) (base g core : Nat) (sr : List Fr) (A : Option Addr) (k : Nat) (i : Value) (wr : World) : Prop :=
  ∃ (q : Nat) (vs : List Value) (vE vR vW : Value), 1 ≤ q ∧ (q ≤ core ∨ q = 1) ∧ i = .int .i64 q ∧ Nst noP u v wr base g core (nS core (allP sr q)) (nE core (allP sr q)) (nR core (allP sr q)) (nW core (allP sr q)) A k vs vE vR (.slice none 0 0) vW
def InAt (pr : Nat → Prop) (u v : World) (base g core : Nat) (l0 m : List Ex) (A : Option Addr) (k : Nat) (i : Value) (wr : World) : Prop :=
  ∃ (q : Nat) (vs : List Value) (vE vR vW : Value), q ≤ m.length ∧ i = .int .i64 q ∧ Nst pr u v wr base g core (nS core (l0 ++ m.take q)) (nE core (l0 ++ m.take q)) (nR core (l0 ++ m.take q)) (nW core (l0 ++ m.take q)) A k vs vE vR (.slice none 0 0) vW
theorem qy_in {w : World} {g : Nat} {it : List Ex} {sr : List Fr} {wh : Ex} {gr : List Ex} {A : Option Addr} {k : Nat} {B : Option Addr} {j : Nat} {C : Option Addr} {c : Nat} {D : Option Addr} {d : Nat} (h : Blok w g 29 (qyC it sr wh gr A k B j C c D d)) :
    g < w.heap.size ∧ w.cell? ⟨g, 0, none⟩ = some (.slice A it.length k) ∧ w.cell? ⟨g, 1, none⟩ = some (.slice B sr.length j) ∧ w.cell? ⟨g, 2, none⟩ = some (.int .i64 wh.op) ∧ w.cell? ⟨g, 3, none⟩ = some (.string wh.tab) ∧ w.cell? ⟨g, 4, none⟩ = some (.string wh.name) ∧ w.cell? ⟨g, 5, none⟩ = some (.int .i64 wh.t) ∧ w.cell? ⟨g, 6, none⟩ = some (.int .i64 wh.c) ∧ w.cell? ⟨g, 7, none⟩ = some (.int .i64 wh.vk) ∧ w.cell? ⟨g, 8, none⟩ = some (.int .i64 wh.vi) ∧ w.cell? ⟨g, 9, none⟩ = some (.string wh.vs) ∧ w.cell? ⟨g, 10, none⟩ = some (.slice C wh.l.length c) ∧ w.cell? ⟨g, 11, none⟩ = some (.slice D gr.length d) :=
  ⟨h.lt, h.cell 0, h.cell 1, h.cell 2, h.cell 3, h.cell 4, h.cell 5, h.cell 6, h.cell 7, h.cell 8, h.cell 9, h.cell 10, h.cell 11⟩
/-- The tables behind the core, one by one. -/
def LtsAt (N : Value → World → Prop) (u : World) (base : Nat) (sr : List Fr) (core : Nat) (i : Value) (wr : World) : Prop :=
  ∃ (q : Nat) (vL : Value), core + q ≤ sr.length ∧ i = .int .i64 ((core + q : Nat) : Int) ∧ N vL wr ∧ LaSl u wr base vL (latesX sr core q)
theorem latesX_succ {sr : List Fr} {core q : Nat} (h : core + q < sr.length) : latesX sr core (q + 1) = latesX sr core q ++ [lateX sr[core + q] ((core + q : Nat) : Int)] := by
  unfold latesX
  rw [List.range_succ, List.map_append]
  simp [List.getD, h]
theorem latesX_len (sr : List Fr) (core q : Nat) : (latesX sr core q).length = q := by simp [latesX]
set_option maxHeartbeats 16000000 in
set_option maxRecDepth 100000 in
theorem nof_any (it : List Ex) (sr : List Fr) (wh : Ex) (gr : List Ex) (A : Option Addr) (k : Nat) (B : Option Addr) (j : Nat) (C : Option Addr) (c : Nat) (D : Option Addr) (d : Nat) (w : World)
    (hs : sr.length ≤ 1000) (hn : ∀ f ∈ sr, f.on.nodes ≤ 200) (hw : wh.nodes ≤ 200) (rB : FrsR (PRow w) B sr) (rC : ExsR (PRow w) C wh.l) :
    Calls Try.prog 14 #[.agg (qyC it sr wh gr A k B j C c D d)] w (NormF w (normX sr wh)) := by
  have HCo : Hid (∀ W, Grew w W → Gives Try.prog 16 #[.agg (qyC it sr wh gr A k B j C c D d)] W (.int .i64 (coreN sr))) := Lib.hid fun W hW => core_any it sr wh gr A k B j C c D d W (by omega) (rB.grew hW)
  have HRB := Lib.hid rB
  have HRC := Lib.hid rC
  have hcs : coreN sr ≤ sr.length := coreN_le sr
  obtain ⟨fin, hfin⟩ : ∃ fin, normX sr wh = fin := ⟨_, rfl⟩
  have HF := Lib.hid hfin
  unfold normX at HF
  rw [hfin]
  clear rB rC hfin
  generalize coreN sr = core at *
  obtain ⟨i0, hi, hz0, hz1, hz2⟩ := info_parts infoEx
  have HJ := Lib.hid hi
  have HJ0 := Lib.hid hz0
  have HJ1 := Lib.hid hz1
  have HJ2 := Lib.hid hz2
  clear hi hz0 hz1 hz2
  unfold qyC at *
  go_enter Try.func14, Try.ntmps14
  go_upto_region 2 with (go_at_call 16; (with_reducible refine (HCo.out _ (((Grew.refl w).alloc _).alloc _)).grows.mono ?_); rintro e w2 ⟨rfl, hg2⟩; have HB1 : Hid (Blok w2 w.heap.size 29 (qyC it sr wh gr A k B j C c D d)) := Lib.hid (((Blok.new _ _ _ _ (by rfl)).alloc _).grew hg2); have HB2 : Hid (Blok w2 (w.heap.size + 1) 44 #[.int .i64 0, .slice none 0 0, .slice none 0 0, .slice none 0 0, .slice none 0 0, .slice none 0 0]) := Lib.hid ((Blok.new _ _ _ _ (by simp)).grew hg2); have HG2 : Hid (Grew w w2) := Lib.hid ((((Grew.refl w).alloc _).alloc _).trans hg2); clear hg2)
  have HGb : Hid (Blok (w2.alloc (.cells #[.int .i64 core, .slice none 0 0, .slice none 0 0, .slice none 0 0, .slice none 0 0, .slice none 0 0] 44)) w2.heap.size 44 #[.int .i64 core, .slice none 0 0, .slice none 0 0, .slice none 0 0, .slice none 0 0, .slice none 0 0]) := Lib.hid (Blok.new _ _ _ _ rfl)
  have HB1' := Lib.hid (HB1.out.alloc (.cells #[.int .i64 core, .slice none 0 0, .slice none 0 0, .slice none 0 0, .slice none 0 0, .slice none 0 0] 44))
  have HB2' := Lib.hid (HB2.out.alloc (.cells #[.int .i64 core, .slice none 0 0, .slice none 0 0, .slice none 0 0, .slice none 0 0, .slice none 0 0] 44))
  have HG2' := Lib.hid (HG2.out.alloc (.cells #[.int .i64 core, .slice none 0 0, .slice none 0 0, .slice none 0 0, .slice none 0 0, .slice none 0 0] 44))
  have hug : w.heap.size ≤ w2.heap.size := HG2.out.size
  have hb1g : w.heap.size < w2.heap.size := HB1.out.lt
  have hb2g : w.heap.size + 1 < w2.heap.size := HB2.out.lt
  clear HB1 HB2 HG2 HCo
  generalize (w2.alloc (.cells #[.int .i64 core, .slice none 0 0, .slice none 0 0, .slice none 0 0, .slice none 0 0, .slice none 0 0] 44)) = W3 at *
  generalize w2.heap.size = g at *
  have hgl : g < W3.heap.size := HGb.out.lt
  have c0 : W3.cell? ⟨g, 0, none⟩ = some (.int .i64 core) := HGb.out.cell 0
  have c1 : W3.cell? ⟨g, 1, none⟩ = some (.slice none 0 0) := HGb.out.cell 1
  have z1 := HGb.out.thaw 1
  go_upto_region 4 with (at_make; refine wpList_make_row _ rfl _ _ 40 rfl 22 i0 (.slice none 0 0) Try.underlying40 HJ.out HJ0.out HJ1.out rfl _ _ core rfl rfl (by rw [HJ2.out]; omega) (by omega) ?_)
  have HN0 := Lib.hid (of_start HGb.out HG2'.out hug (by omega))
  clear HJ HJ0 HJ1 HJ2 c0 c1 z1
  generalize hW4 : ((W3.setCell ⟨g, 1, none⟩ (.slice (some ⟨W3.heap.size, 0, none⟩) core core)).alloc (.cells (madeCells #[.slice none 0 0] core) 22)) = W4 at *
  clear hW4
  generalize hbs : W3.heap.size = base at *
  obtain ⟨AS, kS, vs0, vE0, vR0, vW0, HN0⟩ : ∃ AS kS vs vE vR vW, Hid (Nst noP w W3 W4 base g core (nS core (allP sr 1)) (nE core (allP sr 1)) (nR core (allP sr 1)) (nW core (allP sr 1)) AS kS vs vE vR (.slice none 0 0) vW) := ⟨_, _, _, _, _, _, by rw [allP_one]; exact HN0⟩
  have hlP := allP_len sr hn
  go_upto_region 5 with fail
  go_loopw [5] (fun i wr => OfAt w W3 base g core sr AS kS i wr) (fun i _ => core - (intOf i).toNat)
  case atStart => exact ⟨1, _, _, _, _, Nat.le_refl _, Or.inr rfl, rfl, HN0.out⟩
  case round =>
    obtain ⟨q, vs, vE, vR, vW, hq1, hq2, rfl, hN⟩ := hrel
    have HNq := Lib.hid hN
    clear hN
    have c0 : wr.cell? ⟨g, 0, none⟩ = some (.int .i64 core) := HNq.out.blk.cell 0
    have hgl : g < wr.heap.size := HNq.out.blk.lt
    have hbx : Blok wr w.heap.size 29 (qyC it sr wh gr A k B j C c D d) := (HNq.out.kept _ (by omega) (by omega)).trans HB1'.out
    obtain ⟨xl, x0, x1, x2, x3, x4, x5, x6, x7, x8, x9, x10, x11⟩ := qy_in hbx
    by_cases h : q < core
    · have hqs : q < sr.length := by omega
      obtain ⟨bf, of, PF, kf, rfl, hpf, h9f, _, _, _⟩ := frsR_at HRB.out hqs
      obtain ⟨p0, a0, a1, a2, a3, a4, a5, a6, a7, a8⟩ := h9f.grew HNq.out.grew
      have HP : Hid (∀ W, Grew w W → Calls Try.prog 19 #[exV sr[q].on PF kf] W (PartsF w W (partsX sr[q].on))) := Lib.hid fun W hW => parts_own sr[q].on PF kf (by have := hn _ (List.getElem_mem hqs); omega) w W hW hpf
      have hal := allP_succ sr hq1 hqs
      have hlq := hlP q
      have hmn : ∀ y ∈ partsX sr[q].on, y.nodes ≤ 200 := fun y hy => Nat.le_trans (partsX_nodes _ y hy) (hn _ (List.getElem_mem hqs))
      have hml : (partsX sr[q].on).length ≤ 200 := Nat.le_trans (partsX_len _) (hn _ (List.getElem_mem hqs))
      generalize partsX sr[q].on = m at *
      generalize sr[q].on = y at *
      unfold exV at HP
      go_upto_region 8 with (go_at_call 19; (with_reducible refine (HP.out _ HNq.out.grew).mono ?_); rintro e W5 ⟨A5, k5, rfl, hg5, ho5⟩)
      obtain ⟨css5, hc5, hr5⟩ := ho5
      have HGd := Lib.hid (HNq.out.guard hg5 hr5)
      have HN5 := Lib.hid (HNq.out.more hg5)
      have HR5 := Lib.hid hr5
      have HC5 := Lib.hid hc5
      clear hr5 hc5 hg5
      go_loopw [33] (fun i wr => InAt (fun i => (Value.slice A5 m.length k5).ownBlock = some i) w W5 base g core (allP sr q) m AS kS i wr) (fun i _ => m.length - (intOf i).toNat)
      case atStart => exact ⟨0, _, _, _, _, Nat.zero_le _, rfl, by rw [List.take_zero, List.append_nil]; exact HGd.out⟩
      case round =>
        obtain ⟨n, vs', vE', vR', vW', hn', rfl, hN'⟩ := hrel
        have HM := Lib.hid hN'
        clear hN'
        by_cases h' : n < m.length
        · have hX : ExsU w wr A5 m := by
            have := own_same HR5.out fun i hi => (HM.out.safe i hi).2.2
            exact (show ExOwn w wr _ A5 k5 m from ⟨css5, HC5.out, this⟩).u
          obtain ⟨ba, oa, PA, ka, rfl, hpa, h9⟩ := exsU_nine hX h'
          have hl6 : ((allP sr q) ++ m.take n).length ≤ 1000000 := by rw [List.length_append, List.length_take]; omega
          have HPut : Hid (∀ W, Nst _ w W5 W base g core _ _ _ _ AS kS vs' vE' vR' _ vW' → Calls Try.prog 44 #[.pointer (some ⟨g, 0, none⟩), exV m[n] PA ka, .func (.func 43) #[] #[.pointer (some ⟨g, 0, none⟩)]] W (PutF (fun i => (Value.slice (some ⟨ba, oa, none⟩) m.length k5).ownBlock = some i) w W5 base g core AS kS (.slice none 0 0) (((allP sr q) ++ m.take n) ++ [m[n]]))) := Lib.hid fun W hW =>
            put_any m[n] PA ka _ w W5 W base g core ((allP sr q) ++ m.take n) AS kS vs' vE' vR' (.slice none 0 0) vW' (by have := hmn _ (List.getElem_mem h'); omega) hl6 hpa hW
          have HT : Hid (((allP sr q) ++ m.take n) ++ [m[n]] = (allP sr q) ++ m.take (n + 1)) := Lib.hid (by rw [List.take_succ_eq_append_getElem h', List.append_assoc])
          rw [HT.out] at HPut
          obtain ⟨p0, a0, a1, a2, a3, a4, a5, a6, a7, a8⟩ := h9
          clear hX hpa HT hl6
          generalize m[n] = y at *
          unfold exV at HPut
          go_upto_region 10 with fail
          have HMa := Lib.hid (HM.out.more ((Grew.refl wr).alloc (.cells #[.int .i64 y.op, .string y.tab, .string y.name, .int .i64 y.t, .int .i64 y.c, .int .i64 y.vk, .int .i64 y.vi, .string y.vs, .slice PA y.l.length ka] 27)))
          have HBa : Hid (Blok (wr.alloc (.cells #[.int .i64 y.op, .string y.tab, .string y.name, .int .i64 y.t, .int .i64 y.c, .int .i64 y.vk, .int .i64 y.vi, .string y.vs, .slice PA y.l.length ka] 27)) wr.heap.size 27 #[.int .i64 y.op, .string y.tab, .string y.name, .int .i64 y.t, .int .i64 y.c, .int .i64 y.vk, .int .i64 y.vi, .string y.vs, .slice PA y.l.length ka]) := Lib.hid (Blok.new _ _ _ _ rfl)
          clear HM a0 a1 a2 a3 a4 a5 a6 a7 a8 p0
          generalize (wr.alloc (.cells #[.int .i64 y.op, .string y.tab, .string y.name, .int .i64 y.t, .int .i64 y.c, .int .i64 y.vk, .int .i64 y.vi, .string y.vs, .slice PA y.l.length ka] 27)) = Wa at *
          generalize wr.heap.size = ba7 at *
          obtain ⟨q0, s0, s1, s2, s3, s4, s5, s6, s7, s8⟩ := blok9c HBa.out
          go_wp2_with (go_at_call 44; (with_reducible refine (HPut.out _ HMa.out).mono ?_); rintro e W7 ⟨rfl, vs7, vE7, vR7, vW7, hN7⟩; have HN7 := Lib.hid hN7; clear hN7)
          exact ⟨⟨n + 1, vs7, vE7, vR7, vW7, by omega, by go_num, HN7.out⟩, by simp only [intOf]; omega⟩
        · obtain rfl : n = m.length := by omega
          rw [List.take_length] at HM
          have HNe := Lib.hid (HM.out.leave HN5.out)
          clear HM HN5 HGd
          rw [← hal] at HNe
          go_wp2
          exact ⟨⟨q + 1, _, _, _, _, by omega, by omega, by go_num, HNe.out⟩, by simp only [intOf]; omega⟩
    · have hqc : allP sr q = allP sr core := by
        rcases hq2 with hq2 | hq2
        · rw [show q = core by omega]
        · subst hq2
          have : core = 0 ∨ core = 1 := by omega
          rcases this with e | e
          · rw [e, allP_one]; rfl
          · rw [e]
      rw [hqc] at HNq
      have HP : Hid (∀ W, Grew w W → Calls Try.prog 19 #[exV wh C c] W (PartsF w W (partsX wh))) := Lib.hid fun W hW => parts_own wh C c (by omega) w W hW HRC.out
      have hax : allX sr wh core = allP sr core ++ partsX wh := rfl
      have hlq := hlP core
      have hmn : ∀ y ∈ partsX wh, y.nodes ≤ 200 := fun y hy => Nat.le_trans (partsX_nodes _ y hy) hw
      have hml : (partsX wh).length ≤ 200 := Nat.le_trans (partsX_len _) hw
      generalize partsX wh = m at *
      unfold exV at HP
      go_upto_region 13 with (go_at_call 19; (with_reducible refine (HP.out _ HNq.out.grew).mono ?_); rintro e W5 ⟨A5, k5, rfl, hg5, ho5⟩)
      obtain ⟨css5, hc5, hr5⟩ := ho5
      have HGd := Lib.hid (HNq.out.guard hg5 hr5)
      have HN5 := Lib.hid (HNq.out.more hg5)
      have HR5 := Lib.hid hr5
      have HC5 := Lib.hid hc5
      clear hr5 hc5 hg5
      go_loopw [45] (fun i wr => InAt (fun i => (Value.slice A5 m.length k5).ownBlock = some i) w W5 base g core (allP sr core) m AS kS i wr) (fun i _ => m.length - (intOf i).toNat)
      case atStart => exact ⟨0, _, _, _, _, Nat.zero_le _, rfl, by rw [List.take_zero, List.append_nil]; exact HGd.out⟩
      case round =>
        obtain ⟨n, vs', vE', vR', vW', hn', rfl, hN'⟩ := hrel
        have HM := Lib.hid hN'
        clear hN'
        by_cases h' : n < m.length
        · have hX : ExsU w wr A5 m := by
            have := own_same HR5.out fun i hi => (HM.out.safe i hi).2.2
            exact (show ExOwn w wr _ A5 k5 m from ⟨css5, HC5.out, this⟩).u
          obtain ⟨ba, oa, PA, ka, rfl, hpa, h9⟩ := exsU_nine hX h'
          have hl6 : ((allP sr core) ++ m.take n).length ≤ 1000000 := by rw [List.length_append, List.length_take]; omega
          have HPut : Hid (∀ W, Nst _ w W5 W base g core _ _ _ _ AS kS vs' vE' vR' _ vW' → Calls Try.prog 44 #[.pointer (some ⟨g, 0, none⟩), exV m[n] PA ka, .func (.func 43) #[] #[.pointer (some ⟨g, 0, none⟩)]] W (PutF (fun i => (Value.slice (some ⟨ba, oa, none⟩) m.length k5).ownBlock = some i) w W5 base g core AS kS (.slice none 0 0) (((allP sr core) ++ m.take n) ++ [m[n]]))) := Lib.hid fun W hW =>
            put_any m[n] PA ka _ w W5 W base g core ((allP sr core) ++ m.take n) AS kS vs' vE' vR' (.slice none 0 0) vW' (by have := hmn _ (List.getElem_mem h'); omega) hl6 hpa hW
          have HT : Hid (((allP sr core) ++ m.take n) ++ [m[n]] = (allP sr core) ++ m.take (n + 1)) := Lib.hid (by rw [List.take_succ_eq_append_getElem h', List.append_assoc])
          rw [HT.out] at HPut
          obtain ⟨p0, a0, a1, a2, a3, a4, a5, a6, a7, a8⟩ := h9
          clear hX hpa HT hl6
          generalize m[n] = y at *
          unfold exV at HPut
          go_upto_region 15 with fail
          have HMa := Lib.hid (HM.out.more ((Grew.refl wr).alloc (.cells #[.int .i64 y.op, .string y.tab, .string y.name, .int .i64 y.t, .int .i64 y.c, .int .i64 y.vk, .int .i64 y.vi, .string y.vs, .slice PA y.l.length ka] 27)))
          have HBa : Hid (Blok (wr.alloc (.cells #[.int .i64 y.op, .string y.tab, .string y.name, .int .i64 y.t, .int .i64 y.c, .int .i64 y.vk, .int .i64 y.vi, .string y.vs, .slice PA y.l.length ka] 27)) wr.heap.size 27 #[.int .i64 y.op, .string y.tab, .string y.name, .int .i64 y.t, .int .i64 y.c, .int .i64 y.vk, .int .i64 y.vi, .string y.vs, .slice PA y.l.length ka]) := Lib.hid (Blok.new _ _ _ _ rfl)
          clear HM a0 a1 a2 a3 a4 a5 a6 a7 a8 p0
          generalize (wr.alloc (.cells #[.int .i64 y.op, .string y.tab, .string y.name, .int .i64 y.t, .int .i64 y.c, .int .i64 y.vk, .int .i64 y.vi, .string y.vs, .slice PA y.l.length ka] 27)) = Wa at *
          generalize wr.heap.size = ba7 at *
          obtain ⟨q0, s0, s1, s2, s3, s4, s5, s6, s7, s8⟩ := blok9c HBa.out
          go_wp2_with (go_at_call 44; (with_reducible refine (HPut.out _ HMa.out).mono ?_); rintro e W7 ⟨rfl, vs7, vE7, vR7, vW7, hN7⟩; have HN7 := Lib.hid hN7; clear hN7)
          exact ⟨⟨n + 1, vs7, vE7, vR7, vW7, by omega, by go_num, HN7.out⟩, by simp only [intOf]; omega⟩
        · obtain rfl : n = m.length := by omega
          rw [List.take_length] at HM
          have HNe := Lib.hid (HM.out.leave HN5.out)
          clear HM HN5 HGd
          rw [← hax] at HNe
          clear hax
          generalize allX sr wh core = ll at *
          have c0 : wr.cell? ⟨g, 0, none⟩ = some (.int .i64 core) := HNe.out.blk.cell 0
          have hgl : g < wr.heap.size := HNe.out.blk.lt
          go_upto_region 18 with fail
          go_loopw [10] (fun i wr => LtsAt (fun vL W => Nst noP w W3 W base g core (nS core ll) (nE core ll) (nR core ll) (nW core ll) AS kS vs' vE' vR' vL vW') w base sr core i wr) (fun i _ => sr.length - (intOf i).toNat)
          case atStart => exact ⟨0, _, by omega, rfl, HNe.out, LaSl.nil _ _ _⟩
          case round =>
            obtain ⟨q2, vL, hq2', rfl, hN2, hL2⟩ := hrel
            have HN2 := Lib.hid hN2
            have HL2 := Lib.hid hL2
            clear hN2 hL2 HNe c0 hgl
            have hbx : Blok wr w.heap.size 29 (qyC it sr wh gr A k B j C c D d) := (HN2.out.kept _ (by omega) (by omega)).trans HB1'.out
            obtain ⟨xl, x0, x1, x2, x3, x4, x5, x6, x7, x8, x9, x10, x11⟩ := qy_in hbx
            by_cases h2 : core + q2 < sr.length
            · have HLs0 : Hid (∀ t (h : t < sr.length), core + q2 = t → latesX sr core (q2 + 1) = latesX sr core q2 ++ [lateX sr[t] (t : Int)]) := Lib.hid (by rintro _ h rfl; exact latesX_succ h)
              have hll := latesX_len sr core q2
              obtain ⟨t, ht⟩ : ∃ t, core + q2 = t := ⟨_, rfl⟩
              have h2t : t < sr.length := by omega
              have HLs := Lib.hid (HLs0.out t h2t ht)
              clear HLs0
              simp only [ht]
              obtain ⟨bf, of, PF, kf, rfl, hpf, hbf, hcf⟩ := frsR_all HRB.out h2t
              have ht2 : (t : Int) < (sr.length : Int) := by omega
              go_upto_region 20 with fail
              have HLt : Hid (∀ W, Grew w W → Calls Try.prog 45 #[frV sr[t] PF kf, .int .i64 (t : Int)] W (LateF w W (lateX sr[t] (t : Int)))) := Lib.hid fun W hW => late_any sr[t] _ PF kf (Nat.le_trans (hn _ (List.getElem_mem h2t)) (by decide)) w W hW hpf
              obtain ⟨AL, cL, css, rfl, hLc, hLo⟩ := HL2.out
              have HLc := Lib.hid hLc
              have HLo := Lib.hid hLo
              have f0 : w.cell? ⟨bf, of + t * 12, none⟩ = _ := hcf 0 _ rfl
              have f1 := hcf 1 _ rfl
              have f2 := hcf 2 _ rfl
              have f3 := hcf 3 _ rfl
              have f4 := hcf 4 _ rfl
              have f5 := hcf 5 _ rfl
              have f6 := hcf 6 _ rfl
              have f7 := hcf 7 _ rfl
              have f8 := hcf 8 _ rfl
              have f9 := hcf 9 _ rfl
              have f10 := hcf 10 _ rfl
              have f11 := hcf 11 _ rfl
              clear hcf hpf hLc hLo HL2 x0 x1 x2 x3 x4 x5 x6 x7 x8 x9 x10 x11
              generalize lateX sr[t] (t : Int) = y at *
              generalize latesX sr core q2 = lts at *
              generalize sr[t] = fr at *
              have ht2 : (t : Int) < (sr.length : Int) := by omega
              unfold frV at HLt
              have hq1000 : lts.length ≤ 1000 := by omega
              clear hll
              have hbx2 := hbx
              clear hbx
              have HD := Lib.hid (HN2.out.more (Grew.refl wr).drew)
              have hS0 : Blok wr.drew g 44 #[.int .i64 core, .slice AS vs'.length kS, vE', vR', .slice AL lts.length cL, vW'] ∧ Blok wr.drew w.heap.size 29 (qyC it sr wh gr A k (some ⟨bf, of, none⟩) j C c D d) ∧ Grew w wr.drew := ⟨HD.out.blk, hbx2.grew (Grew.refl wr).drew, HD.out.grew⟩
              refine wp_region_last (fun W => Blok W g 44 #[.int .i64 core, .slice AS vs'.length kS, vE', vR', .slice AL lts.length cL, vW'] ∧ Blok W w.heap.size 29 (qyC it sr wh gr A k (some ⟨bf, of, none⟩) j C c D d) ∧ Grew w W) 12 rfl (by kernel_rfl) ?_
              refine last_take 0 (v := ?_) rfl (by kernel_rfl) (by kernel_rfl) (by kernel_rfl) (by kernel_rfl) (fun _ _ _ h => h) (by rfl) ?_ hS0 ?_
              rotate_left
              · (intro W hW; go_simp; with_reducible rfl)
              refine last_norm (a' := ?_) ?_ ?_
              rotate_left
              · (go_simp; with_reducible rfl)
              refine last_take 1 (v := ?_) rfl (by kernel_rfl) (by kernel_rfl) (by kernel_rfl) (by kernel_rfl) (fun _ _ _ h => h) (by rfl) ?_ hS0 ?_
              rotate_left
              · (intro W hW; have q := hW.1.cell 4; have ql := hW.1.lt; simp at q; go_simp; with_reducible rfl)
              refine last_norm (a' := ?_) ?_ ?_
              rotate_left
              · (go_simp; with_reducible rfl)
              refine last_take 2 (v := ?_) rfl (by kernel_rfl) (by kernel_rfl) (by kernel_rfl) (by kernel_rfl) (fun _ _ _ h => h) (by rfl) ?_ hS0 ?_
              rotate_left
              · (intro W hW; go_simp; with_reducible rfl)
              refine last_norm (a' := ?_) ?_ ?_
              rotate_left
              · (go_simp; with_reducible rfl)
              refine last_take 3 (v := ?_) rfl (by kernel_rfl) (by kernel_rfl) (by kernel_rfl) (by kernel_rfl) (fun _ _ _ h => h) (by rfl) ?_ hS0 ?_
              rotate_left
              · (intro W hW; obtain ⟨xl, x0, x1, x2, x3, x4, x5, x6, x7, x8, x9, x10, x11⟩ := qy_in hW.2.1; go_simp; with_reducible rfl)
              refine last_norm (a' := ?_) ?_ ?_
              rotate_left
              · (go_simp; with_reducible rfl)
              refine last_take 4 (v := ?_) rfl (by kernel_rfl) (by kernel_rfl) (by kernel_rfl) (by kernel_rfl) (fun _ _ _ h => h) (by rfl) ?_ hS0 ?_
              rotate_left
              · (intro W hW; go_simp; with_reducible rfl)
              refine last_take 5 (v := ?_) rfl (by kernel_rfl) (by kernel_rfl) (by kernel_rfl) (by kernel_rfl) (fun _ _ _ h => h) (by rfl) ?_ hS0 ?_
              rotate_left
              · (intro W hW; go_simp; with_reducible rfl)
              refine last_norm (a' := ?_) ?_ ?_
              rotate_left
              · (go_simp; with_reducible rfl)
              refine last_take 6 (v := ?_) rfl (by kernel_rfl) (by kernel_rfl) (by kernel_rfl) (by kernel_rfl) (fun _ _ _ h => h) (by rfl) ?_ hS0 ?_
              rotate_left
              · (intro W hW; have e0 := cell_keep hW.2.2 hbf (f0); have e1 := cell_keep hW.2.2 hbf (f1); have e2 := cell_keep hW.2.2 hbf (f2); have e3 := cell_keep hW.2.2 hbf (f3); have e4 := cell_keep hW.2.2 hbf (f4); have e5 := cell_keep hW.2.2 hbf (f5); have e6 := cell_keep hW.2.2 hbf (f6); have e7 := cell_keep hW.2.2 hbf (f7); have e8 := cell_keep hW.2.2 hbf (f8); have e9 := cell_keep hW.2.2 hbf (f9); have e10 := cell_keep hW.2.2 hbf (f10); have e11 := cell_keep hW.2.2 hbf (f11); have el := Nat.lt_of_lt_of_le hbf (Grew.size hW.2.2); go_simp; with_reducible rfl)
              refine last_norm (a' := ?_) ?_ ?_
              rotate_left
              · (go_simp; with_reducible rfl)
              refine last_take 7 (v := ?_) rfl (by kernel_rfl) (by kernel_rfl) (by kernel_rfl) (by kernel_rfl) (fun _ _ _ h => h) (by rfl) ?_ hS0 ?_
              rotate_left
              · (intro W hW; go_simp; with_reducible rfl)
              refine last_norm (a' := ?_) ?_ ?_
              rotate_left
              · (go_simp; with_reducible rfl)
              refine last_call 8 (by kernel_rfl) (by kernel_rfl) rfl (by rfl) (fun K hK => ?_)
              go_simp
              go_wp2_with ((go_at_call 45; (with_reducible refine (HLt.out _ HD.out.grew).mono ?_); rintro e w6 ⟨vK, vS, vR, rfl, hg6, hK6, hB6⟩; have HN6 := Lib.hid (HD.out.more hg6); have hS6 : Blok w6 g 44 #[.int .i64 core, .slice AS vs'.length kS, vE', vR', .slice AL lts.length cL, vW'] ∧ Blok w6 w.heap.size 29 (qyC it sr wh gr A k (some ⟨bf, of, none⟩) j C c D d) ∧ Grew w w6 := ⟨HN6.out.blk, hS0.2.1.grew hg6, HN6.out.grew⟩))
              refine hK.out _ _ hS6 ?_
              clear hK K
              have HE6 := Lib.hid (late_elem (base := base) HD.out.size hK6 hB6)
              obtain ⟨AK, cK, eK, _⟩ := hK6
              obtain ⟨AS2, cS2, eS2, _⟩ := hB6.each 0 vS y.scan rfl rfl
              obtain ⟨AR2, cR2, eR2, _⟩ := hB6.each 1 vR y.rest rfl rfl
              subst eK eS2 eR2
              have HLc6 : Hid (ListR (LaU w w6 base) 5 lts css) := Lib.hid (HLc.out.map fun x cs hx => hx.map (fun _ _ q => (q.grew (Grew.refl wr).drew).grew hg6) (fun _ _ q => (q.grew (Grew.refl wr).drew).grew hg6))
              have HLo6 := Lib.hid (own_grewE (own_grewE HLo.out (Grew.refl wr).drew) hg6)
              refine last_call 9 (by kernel_rfl) (by kernel_rfl) rfl (by rfl) (fun K hK => ?_)
              go_simp
              go_wp2_with fail
              have HNa := Lib.hid (HN6.out.more ((Grew.refl w6).alloc (.cells #[.int .i64 y.table, .int .i64 y.join, .slice AK y.keys.length cK, .slice AS2 y.scan.length cS2, .slice AR2 y.rest.length cR2] 72)))
              have hSa : Blok (w6.alloc (.cells #[.int .i64 y.table, .int .i64 y.join, .slice AK y.keys.length cK, .slice AS2 y.scan.length cS2, .slice AR2 y.rest.length cR2] 72)) g 44 #[.int .i64 core, .slice AS vs'.length kS, vE', vR', .slice AL lts.length cL, vW'] ∧ Blok (w6.alloc (.cells #[.int .i64 y.table, .int .i64 y.join, .slice AK y.keys.length cK, .slice AS2 y.scan.length cS2, .slice AR2 y.rest.length cR2] 72)) w.heap.size 29 (qyC it sr wh gr A k (some ⟨bf, of, none⟩) j C c D d) ∧ Grew w (w6.alloc (.cells #[.int .i64 y.table, .int .i64 y.join, .slice AK y.keys.length cK, .slice AS2 y.scan.length cS2, .slice AR2 y.rest.length cR2] 72)) := ⟨HNa.out.blk, hS6.2.1.alloc _, HNa.out.grew⟩
              have HLca : Hid (ListR (LaU w (w6.alloc (.cells #[.int .i64 y.table, .int .i64 y.join, .slice AK y.keys.length cK, .slice AS2 y.scan.length cS2, .slice AR2 y.rest.length cR2] 72)) base) 5 lts css) := Lib.hid (HLc6.out.map fun x cs hx => hx.map (fun _ _ q => q.grew ((Grew.refl w6).alloc _)) (fun _ _ q => q.grew ((Grew.refl w6).alloc _)))
              have HEa := Lib.hid (HE6.out.map (w' := w6.alloc (.cells #[.int .i64 y.table, .int .i64 y.join, .slice AK y.keys.length cK, .slice AS2 y.scan.length cS2, .slice AR2 y.rest.length cR2] 72)) (fun _ _ q => q.grew ((Grew.refl w6).alloc _)) (fun _ _ q => q.grew ((Grew.refl w6).alloc _)))
              have HLoa := Lib.hid (own_alloc HLo6.out (.cells #[.int .i64 y.table, .int .i64 y.join, .slice AK y.keys.length cK, .slice AS2 y.scan.length cS2, .slice AR2 y.rest.length cR2] 72))
              refine hK.out _ _ hSa ?_
              clear hK K
              refine last_call 10 (by kernel_rfl) (by kernel_rfl) rfl (by rfl) (fun K hK => ?_)
              refine wp_appC (.tmp 63) (.tmp 71) 42 72 5 rfl base (.agg #[.int .i64 0, .int .i64 0, .slice none 0 0, .slice none 0 0, .slice none 0 0]) 88 Try.underlying42 infoLa rfl (by decide) (by decide) _ lts.length _ rfl HLoa.out _ 1 1 [.int .i64 y.table, .int .i64 y.join, .slice AK y.keys.length cK, .slice AS2 y.scan.length cS2, .slice AR2 y.rest.length cR2] rfl rfl (row_new w6 _ _ #[.int .i64 y.table, .int .i64 y.join, .slice AK y.keys.length cK, .slice AS2 y.scan.length cS2, .slice AR2 y.rest.length cR2] rfl) (by simp [Value.oneCell']) (by omega) HNa.out.size ?_
              intro A8 c8 w8 ho8 hg8 hor8
              have hbb := own_base HLoa.out
              have hS8 : Blok w8 g 44 #[.int .i64 core, .slice AS vs'.length kS, vE', vR', .slice AL lts.length cL, vW'] ∧ Blok w8 w.heap.size 29 (qyC it sr wh gr A k (some ⟨bf, of, none⟩) j C c D d) ∧ Grew w w8 := ⟨hSa.1.grown hg8 (fun e => by have := hbb g e; have := HNa.out.low; omega), hSa.2.1.grown hg8 (fun e => by have := hbb _ e; have := HNa.out.low; omega), hSa.2.2.grown hg8 (fun b hb' => by have := hbb b hb'; have := HNa.out.low; omega)⟩
              have HNf := Lib.hid (HNa.out.putL HLoa.out hg8 (fun _ _ h => h) (.slice A8 (lts.length + 1) c8))
              have HLf := Lib.hid (LaSl.put HLca.out HLoa.out HEa.out rfl ho8 hg8 HNa.out.low.2 (.slice A8 (lts.length + 1) c8))
              refine hK.out _ _ hS8 ?_
              clear hK K
              refine last_take 11 (v := ?_) rfl (by kernel_rfl) (by kernel_rfl) (by kernel_rfl) (by kernel_rfl) (fun _ _ _ h => h) (by rfl) ?_ hS8 ?_
              rotate_left
              · (intro W hW; go_simp; with_reducible rfl)
              refine last_norm (a' := ?_) ?_ ?_
              rotate_left
              · (go_simp; with_reducible rfl)
              have z2 := hS8.1.thaw 4
              have zc := hS8.1.cell 4
              have zl := hS8.1.lt
              simp at zc
              refine last_last (by kernel_rfl) (by kernel_rfl) rfl (by rfl) (fun K hK => ?_)
              go_simp
              go_wp2_with fail
              refine hK.out _ _ ?_
              clear hK K hS8 hSa hS6 hS0 ho8 hg8 hor8 z2 zc zl hg6 hB6
              go_wp2
              exact ⟨⟨q2 + 1, _, by omega, by go_num, HNf.out, by rw [HLs.out]; exact HLf.out⟩, by simp only [intOf]; omega⟩
            · have hqe : q2 = sr.length - core := by omega
              subst hqe
              have hb2 : Blok wr (w.heap.size + 1) 44 #[.int .i64 0, .slice none 0 0, .slice none 0 0, .slice none 0 0, .slice none 0 0, .slice none 0 0] := (HN2.out.kept _ (by omega) (by omega)).trans HB2'.out
              have hgb := HN2.out.blk
              have hu2 : w.heap.size ≤ w.heap.size + 1 := by omega
              have h2b : w.heap.size + 1 < base := by omega
              generalize w.heap.size + 1 = b2 at *
              obtain ⟨AE, cE, rfl, _⟩ := HN2.out.edges
              obtain ⟨AR, cR, rfl, _⟩ := HN2.out.bins.each 0 vR' _ rfl rfl
              obtain ⟨AW, cW, rfl, _⟩ := HN2.out.bins.each 1 vW' _ rfl rfl
              obtain ⟨AL, cL, _, rfl, _, _⟩ := HL2.out
              have gl : g < wr.heap.size := hgb.lt
              have g0 := hgb.cell 0
              have g1 := hgb.cell 1
              have g2 := hgb.cell 2
              have g3 := hgb.cell 3
              have g4 := hgb.cell 4
              have g5 := hgb.cell 5
              have bl : b2 < wr.heap.size := hb2.lt
              have z0 := hb2.thaw 0
              have z1 := hb2.thaw 1
              have z2 := hb2.thaw 2
              have z3 := hb2.thaw 3
              have z4 := hb2.thaw 4
              have z5 := hb2.thaw 5
              have y0 := hb2.cell 0
              have y1 := hb2.cell 1
              have y2 := hb2.cell 2
              have y3 := hb2.cell 3
              have y4 := hb2.cell 4
              have y5 := hb2.cell 5
              simp at g0 g1 g2 g3 g4 g5 y0 y1 y2 y3 y4 y5
              have HBF := Lib.hid ((((((hb2.set 0 (.int .i64 core)).set 1 (.slice AS vs'.length kS)).set 2 (.slice AE (nE core ll).length cE)).set 3 (.slice AR (nR core ll).length cR)).set 4 (.slice AL (latesX sr core (sr.length - core)).length cL)).set 5 (.slice AW (nW core ll).length cW))
              have HE : Hid (NormF w fin (.returned (.agg #[.int .i64 core, .slice AS vs'.length kS, .slice AE (nE core ll).length cE, .slice AR (nR core ll).length cR, .slice AL (latesX sr core (sr.length - core)).length cL, .slice AW (nW core ll).length cW])) ((((((wr.setCell ⟨b2, 0, none⟩ (.int .i64 core)).setCell ⟨b2, 1, none⟩ (.slice AS vs'.length kS)).setCell ⟨b2, 2, none⟩ (.slice AE (nE core ll).length cE)).setCell ⟨b2, 3, none⟩ (.slice AR (nR core ll).length cR)).setCell ⟨b2, 4, none⟩ (.slice AL (latesX sr core (sr.length - core)).length cL)).setCell ⟨b2, 5, none⟩ (.slice AW (nW core ll).length cW))) := Lib.hid (by
                rw [← HF.out]
                refine norm_done HN2.out HL2.out (fun i hi => ?_) ((((((HN2.out.grew.setCell hu2 _).setCell hu2 _).setCell hu2 _).setCell hu2 _).setCell hu2 _).setCell hu2 _)
                have hn' : i ≠ b2 := by omega
                rw [heap_set _ _ hn', heap_set _ _ hn', heap_set _ _ hn', heap_set _ _ hn', heap_set _ _ hn', heap_set _ _ hn'])
              clear HN2 HL2 HB2' HF hgb hb2
              generalize nE (core : Int) ll = le at *
              generalize nR (core : Int) ll = lr at *
              generalize nW (core : Int) ll = lw at *
              generalize latesX sr core (sr.length - core) = lla at *
              go_wp2
              have q0 := HBF.out.cell 0
              have q1 := HBF.out.cell 1
              have q2 := HBF.out.cell 2
              have q3 := HBF.out.cell 3
              have q4 := HBF.out.cell 4
              have q5 := HBF.out.cell 5
              simp at q0 q1 q2 q3 q4 q5
              refine bodyPost_ret (v := .agg #[.int .i64 core, .slice AS vs'.length kS, .slice AE le.length cE, .slice AR lr.length cR, .slice AL lla.length cL, .slice AW lw.length cW]) ?_ ?_ ?_
              · simp [results, Try.results14, go_sem, q0, q1, q2, q3, q4, q5]
              · rfl
              · exact HE.out
end Go.Proofs.Ytchogpdfdpbpfaa

/- Layer 16: the page's example. No condition. -/
namespace Go.Proofs.Ytchogpdfdpbpfaa
open Go.RowKit
attribute [local go_sem] more_cell more_frozen more_more more_setCell more_of_drew more_of_drewN lt_more le_more past_cell past_cell2 past_frozen past_frozen2 past_setCell past_setCell2 mid_cell mid_frozen mid_setCell
attribute [local go_sem ↓] Go.wp_at_zero Go.wp_at_succ

def c16 (t : Int) : Ex := .mk 15 ⟨#[]⟩ ⟨#[]⟩ t 0 0 0 ⟨#[]⟩ []
def e16 : Ex := .mk 1 ⟨#[]⟩ ⟨#[]⟩ 0 0 0 0 ⟨#[]⟩ [c16 0, c16 1]
def z16 : Ex := .mk 0 ⟨#[]⟩ ⟨#[]⟩ 0 0 0 0 ⟨#[]⟩ []
def w16 : Ex := .mk 13 ⟨#[]⟩ ⟨#[]⟩ 0 0 0 0 ⟨#[]⟩ [c16 1]
def s16 : List Fr := [⟨0, ⟨#[97]⟩, ⟨#[]⟩, z16⟩, ⟨1, ⟨#[98]⟩, ⟨#[]⟩, e16⟩]
theorem use_e16 : useX e16 = [0, 1] := by
  unfold useX
  have : e16.cols.map Ex.t = [0, 1] := by
    rw [cols_out (by decide)]
    simp [e16, Ex.l, colsE, c16, Ex.cols, Ex.t]
  rw [this]
  exact setI_self (by unfold Rising; decide)
theorem use_w16 : useX w16 = [1] := by
  unfold useX
  have : w16.cols.map Ex.t = [1] := by
    rw [cols_out (by decide)]
    simp [w16, Ex.l, colsE, c16, Ex.cols, Ex.t]
  rw [this]
  exact setI_self (by unfold Rising; decide)
theorem wh_e16 : whereI e16 2 = 3 := by
  unfold whereI
  rw [use_e16]
  have h2 : (edgeP e16).2 = true := by decide
  rw [h2]
  decide
theorem wh_w16 : whereI w16 2 = 2 := by
  unfold whereI
  rw [use_w16]
  decide
theorem core16 : coreN s16 = 2 := by decide
theorem all16 : allX s16 w16 2 = [e16, w16] := by
  have h1 : partsX e16 = [e16] := partsX_one (by decide) (Or.inl (by decide))
  have h2 : partsX w16 = [w16] := partsX_one (by decide) (Or.inl (by decide))
  unfold allX allP
  simp only [s16, List.take_succ_cons, List.take_zero, List.drop_succ_cons, List.drop_zero, List.map_cons, List.map_nil, List.flatten_cons, List.flatten_nil]
  rw [h1, h2]
  rfl
theorem norm16 : (normX s16 w16).core = 2 ∧ (normX s16 w16).edges.length = 1 ∧ ∃ a b, (normX s16 w16).scan = [a, b] ∧ b.length = 1 := by
  unfold normX
  rw [core16, all16]
  refine ⟨rfl, ?_, _, _, rfl, ?_⟩
  · unfold nE
    simp [wh_e16, wh_w16]
  · unfold nT onlyT
    simp [wh_e16, wh_w16, use_w16]
theorem nodes16 : ∀ f ∈ s16, f.on.nodes ≤ 200 := by
  intro f hf
  simp only [s16, List.mem_cons, List.not_mem_nil, or_false] at hf
  rcases hf with rfl | rfl <;> decide
theorem two16 {R : Rw} {a b : Ex} (ha : ExsR R none a.l) (hb : ExsR R none b.l) : ListR (ExR R) 9 [a, b] [exC a none 0, exC b none 0] := by
  have := listR_append (listR_single ha 0) (listR_single hb 0)
  simpa using this
def fr16c (b1 : Nat) : List Value := (Value.int .i64 0 :: .string ⟨#[97]⟩ :: .string ⟨#[]⟩ :: exC z16 none 0) ++ (Value.int .i64 1 :: .string ⟨#[98]⟩ :: .string ⟨#[]⟩ :: exC e16 (some ⟨b1, 0, none⟩) 2)
theorem fr16 {R : Rw} {b1 : Nat} (hz : ExsR R none z16.l) (he : ExsR R (some ⟨b1, 0, none⟩) e16.l) : ListR (FrR R) 12 s16 [Value.int .i64 0 :: .string ⟨#[97]⟩ :: .string ⟨#[]⟩ :: exC z16 none 0, Value.int .i64 1 :: .string ⟨#[98]⟩ :: .string ⟨#[]⟩ :: exC e16 (some ⟨b1, 0, none⟩) 2] := by
  have h := ((ListR.nil (R := FrR R) (size := 12)).snoc (x := ⟨0, ⟨#[97]⟩, ⟨#[]⟩, z16⟩) ⟨none, 0, rfl, hz⟩ rfl).snoc (x := ⟨1, ⟨#[98]⟩, ⟨#[]⟩, e16⟩) ⟨_, 2, rfl, he⟩ rfl
  exact h
set_option maxHeartbeats 8000000 in
set_option maxRecDepth 100000 in
theorem live16_any (w : World) : Gives Try.prog 8 #[] w (.bool true) := by
  unfold Gives
  go_enter Try.func8, Try.ntmps8
  go_wp2_with fail
  refine (nof_any [] s16 w16 [] none 0 (some ⟨w.heap.size + 1 + 1 + 1, 0, none⟩) 2 (some ⟨w.heap.size + 1 + 1 + 1 + 1, 0, none⟩) 1 none 0 _ (by decide) nodes16 (by decide) ⟨_, fr16 (b1 := w.heap.size + 1) (exs_nil _) ⟨_, two16 (exs_nil _) (exs_nil _), ?r1⟩, ?r2⟩ ⟨_, listR_single (x := c16 1) (exs_nil _) 0, ?r3⟩).mono ?_
  case r1 => exact (row_new (w.alloc _) _ (w.heap.size + 1) _ (by simp)).grew (((Grew.refl _).alloc _).alloc _ |>.alloc _)
  case r2 => exact (row_new (((w.alloc _).alloc _).alloc _) _ (w.heap.size + 1 + 1 + 1) _ (by simp)).grew ((Grew.refl _).alloc _)
  case r3 => exact row_new _ _ _ _ (by simp)
  rintro e w6 ⟨A, k, B, j, C, c, D, d, E, f, rfl, hg, hm⟩
  have HG : Hid (Grew w w6) := Lib.hid ((((((Grew.refl w).alloc _).alloc _).alloc _).alloc _ |>.alloc _).trans hg)
  obtain ⟨n1, n2, a, b, n3, n4⟩ := norm16
  generalize normX s16 w16 = x at *
  obtain ⟨core, scan, edges, rest, late, wh⟩ := x
  simp only at n1 n2 n3
  subst n1 n3
  obtain ⟨bs, os, PB, kb, hA, hlt, hcell, _⟩ := xllR_at hm.scan (i := 1) (by simp)
  simp only [List.getElem_cons_succ, List.getElem_cons_zero] at hcell
  subst hA
  rw [n4] at hcell
  clear hm hg
  unfold nmC
  simp only [n2, List.length_cons, List.length_nil, Nat.zero_add]
  generalize rest.length = lr
  generalize late.length = ll
  generalize wh.length = lw
  clear n2 n4
  go_wp2
  go_ret
  exact ⟨rfl, HG.out.alloc _⟩
end Go.Proofs.Ytchogpdfdpbpfaa

/- Expressions gathered in a row of one's own; their parts may lie in rows that came later, but in none that is put longer. No condition. -/
namespace Go.Proofs.Ytchogpdfdpbpfaa
open Go.RowKit

/-- A row that does not lie in block g. -/
def PRowN (w : World) (g : Option Nat) : Rw := fun _ A xs => xs = [] ∨ ∃ b o, A = some ⟨b, o, none⟩ ∧ b < w.heap.size ∧ some b ≠ g ∧ ∀ j u, xs[j]? = some u → w.cell? ⟨b, o + j, none⟩ = some u
theorem PRowN.plain {w : World} {g : Option Nat} (e : TypeId) (A : Option Addr) (xs : List Value) (h : PRowN w g e A xs) : PRow w e A xs := by
  rcases h with h | ⟨b, o, hA, hb, _, hc⟩
  · exact Or.inl h
  · exact Or.inr ⟨b, o, hA, hb, hc⟩
theorem PRowN.grew {w w' : World} {g : Option Nat} (k : Grew w w') (e : TypeId) (A : Option Addr) (xs : List Value) (h : PRowN w g e A xs) : PRowN w' g e A xs := by
  rcases h with h | ⟨b, o, hA, hb, hn, hc⟩
  · exact Or.inl h
  · obtain ⟨x, rfl⟩ := k
    exact Or.inr ⟨b, o, hA, lt_more _ _ _ hb, hn, fun j u hu => by rw [more_cell _ _ _ hb]; exact hc j u hu⟩
theorem PRowN.grown {w w' : World} {g g' : Option Nat} (k : w.grownBy w' g) (hg : g' = g ∨ g' = some w.heap.size) (e : TypeId) (A : Option Addr) (xs : List Value) (h : PRowN w g e A xs) : PRowN w' g' e A xs := by
  rcases h with h | ⟨b, o, hA, hb, hn, hc⟩
  · exact Or.inl h
  · refine Or.inr ⟨b, o, hA, Nat.lt_of_lt_of_le hb k.size, ?_, fun j u hu => k.cell (hc j u hu) hn⟩
    rcases hg with rfl | rfl
    · exact hn
    · intro h
      injection h with h
      omega
/-- Rows that lie below are none of it. -/
theorem PRowN.of {u w : World} {g : Option Nat} (k : Grew u w) (hg : ∀ b, g = some b → u.heap.size ≤ b) (e : TypeId) (A : Option Addr) (xs : List Value) (h : PRow u e A xs) : PRowN w g e A xs := by
  rcases h with h | ⟨b, o, hA, hb, hc⟩
  · exact Or.inl h
  · obtain ⟨x, rfl⟩ := k
    exact Or.inr ⟨b, o, hA, lt_more _ _ _ hb, fun h => by have := hg b h.symm; omega, fun j u hu => by rw [more_cell _ _ _ hb]; exact hc j u hu⟩
/-- A row of one's own, from a base above the block on. -/
theorem PRowN.own {w : World} {g : Option Nat} {base size n : Nat} {e e' : TypeId} {A : Option Addr} {c : Nat} {xs : List Value} (h : w.ownsRow base e size (.slice A n c) n xs) (hg : ∀ b, g = some b → b < base) : PRowN w g e' A xs := by
  have hb := own_base h
  obtain ⟨A', c', e1, h3⟩ := own_row h
  injection e1 with e1 _ _
  subst e1
  rcases h3 with h3 | ⟨b, o, rfl, hlt, hc⟩
  · exact Or.inl h3
  · exact Or.inr ⟨b, o, rfl, hlt, fun h => by have h1 := hg b h.symm; have h2 := hb b rfl; omega, hc⟩
theorem cell_grew {w w' : World} (g : Grew w w') {b o : Nat} {v : Value} (hb : b < w.heap.size) (hc : w.cell? ⟨b, o, none⟩ = some v) : b < w'.heap.size ∧ w'.cell? ⟨b, o, none⟩ = some v := by
  obtain ⟨x, rfl⟩ := g
  exact ⟨lt_more _ _ _ hb, by rw [more_cell _ _ _ hb]; exact hc⟩
def ExG (w : World) (base : Nat) (v : Value) (l : List Ex) : Prop := ∃ A c css, v = .slice A l.length c ∧ ListR (ExR (PRowN w v.ownBlock)) 9 l css ∧ w.ownsRow base 27 9 v l.length css.flatten
theorem ExG.nil (w : World) (base : Nat) : ExG w base (.slice none 0 0) [] := ⟨none, 0, [], rfl, ListR.nil, own_none _ _ _ _⟩
theorem ExG.grew {w w' : World} {base : Nat} {v : Value} {l : List Ex} (h : ExG w base v l) (g : Grew w w') : ExG w' base v l := by
  obtain ⟨A, c, css, e, h1, h2⟩ := h
  exact ⟨A, c, css, e, h1.map fun x cs hx => hx.map (PRowN.grew g), own_grewE h2 g⟩
theorem ExG.le {w : World} {base base' : Nat} {v : Value} {l : List Ex} (h : ExG w base v l) (hb : base' ≤ base) : ExG w base' v l := by
  obtain ⟨A, c, css, e, h1, h2⟩ := h
  exact ⟨A, c, css, e, h1, own_le h2 hb⟩
theorem ExG.exs {w : World} {base : Nat} {v : Value} {l : List Ex} (h : ExG w base v l) : ∃ A c, v = .slice A l.length c ∧ ExsR (PRow w) A l := by
  obtain ⟨A, c, css, rfl, h1, h2⟩ := h
  obtain ⟨A', c', e1, h3⟩ := own_row h2
  injection e1 with e1 _ _
  subst e1
  exact ⟨A, c, rfl, css, h1.map fun x cs hx => hx.map PRowN.plain, h3⟩
theorem ExG.openS {w : World} {base n c : Nat} {A : Option Addr} {l : List Ex} (h : ExG w base (.slice A n c) l) : ∃ css, n = l.length ∧ ListR (ExR (PRowN w (Value.slice A n c).ownBlock)) 9 l css ∧ w.ownsRow base 27 9 (.slice A n c) n css.flatten := by
  obtain ⟨A', c', css, e, h1, h2⟩ := h
  injection e with e1 e2 e3
  subst e1 e2 e3
  exact ⟨css, rfl, h1, h2⟩
theorem ExG.app {w w' : World} {base c c' : Nat} {A A' : Option Addr} {n m : Nat} {l l' : List Ex} {css dss : List (List Value)} (hn : n = l.length) (hm : m = l'.length) (h1 : ListR (ExR (PRowN w (Value.slice A n c).ownBlock)) 9 l css) (h2 : ListR (ExR (PRowN w (Value.slice A n c).ownBlock)) 9 l' dss)
    (ho : w'.ownsRow base 27 9 (.slice A' (n + m) c') (n + m) (css.flatten ++ dss.flatten)) (hg : w.grownBy w' (Value.slice A n c).ownBlock)
    (hor : (Value.slice A' (n + m) c').ownBlock = (Value.slice A n c).ownBlock ∨ (Value.slice A' (n + m) c').ownBlock = some w.heap.size) : ExG w' base (.slice A' (n + m) c') (l ++ l') := by
  subst hn hm
  refine ⟨A', c', css ++ dss, by rw [List.length_append], (listR_append h1 h2).map fun x cs hx => hx.map (PRowN.grown hg hor), ?_⟩
  rw [List.length_append, List.flatten_append]
  exact ho
/-- Expressions that lie below the row, to be put into it. -/
theorem exs_in {u w : World} {g : Option Nat} (k : Grew u w) (hg : ∀ b, g = some b → u.heap.size ≤ b) {B : Option Addr} {m : List Ex} (h : ExsR (PRow u) B m) : ∃ dss, ListR (ExR (PRowN w g)) 9 m dss ∧ Row w B dss.flatten := by
  obtain ⟨dss, h1, h2⟩ := h
  exact ⟨dss, h1.map fun x cs hx => hx.map (PRowN.of k hg), Row.grew h2 k⟩
theorem wp_apps {P : Program} {w : World} {o : Oper} {a : Act} {K : Act → World → Prop} {Q : Exit → Act → World → Prop} (s x : Operand) (t e : TypeId) (size : Nat)
    (ho : o.op = .call { callee := .builtin .append, args := #[s, x], argTypes := #[t, t] })
    (u : World) (z : Value) (bytes : Nat) (ht : P.underlying t = some (.slice e)) (hi : (P.info? e).map (fun i => (i.zero, i.size, i.bytes)) = some (some z, size, bytes)) (hzs : z.cells.size = size) (hsz : 0 < size) (hb8 : bytes ≤ 256)
    (v : Value) (n : Nat) (xs : List Value) (hs : a.eval s = v) (hown : w.ownsRow u.heap.size e size v n xs)
    (A : Option Addr) (m c : Nat) (news : List Value) (hx : a.eval x = .slice A m c) (hl : news.length = m * size) (hr : Row w A news) (h1 : ∀ u ∈ news, u.oneCell' = true)
    (hsm : n + m ≤ 549755813888) (hg : Grew u w)
    (h : ∀ A' c' w', w'.ownsRow u.heap.size e size (.slice A' (n + m) c') (n + m) (xs ++ news) → Row w' A' (xs ++ news) → Grew u w' → w.grownBy w' v.ownBlock → ((Value.slice A' (n + m) c').ownBlock = v.ownBlock ∨ (Value.slice A' (n + m) c').ownBlock = some w.heap.size) → K (a.put o.dst (.slice A' (n + m) c')) w') : o.wp P a w K Q := by
  obtain ⟨i, hi0, hz, hs1, hb⟩ := info_parts hi
  have hbb : (n + m) * bytes ≤ 549755813888 * 256 := Nat.mul_le_mul hsm hb8
  refine wp_append_row w s x t ho u.heap.size e i z size bytes ht hi0 hz hs1 hb hzs hsz v n xs hs hown A m c news hx hl hr h1 (by unfold maxLen; omega) (by omega) hg.size ?_
  intro A' c' w' ho' hr' hgb hor
  exact h A' c' w' ho' hr' (hg.grown hgb (own_base hown)) hgb hor
end Go.Proofs.Ytchogpdfdpbpfaa

/- slices.Grow of nil, and slices.Concat, at expressions. Condition: no more than a million expressions. -/
namespace Go.Proofs.Ytchogpdfdpbpfaa
open Go.RowKit
attribute [local go_sem] more_cell more_frozen more_more more_setCell more_of_drew more_of_drewN lt_more le_more past_cell past_cell2 past_frozen past_frozen2 past_setCell past_setCell2 mid_cell mid_frozen mid_setCell
attribute [local go_sem ↓] Go.wp_at_zero Go.wp_at_succ

/-- Room for expressions, none yet, in a row of one's own. -/
def RoomF (w : World) (e : Ending) (w' : World) : Prop := ∃ A c, e = .returned (.slice A 0 c) ∧ Grew w w' ∧ w'.ownsRow w.heap.size 27 9 (.slice A 0 c) 0 []
set_option maxRecDepth 100000 in
theorem grow_any (n : Nat) (hn : n ≤ 1000000) (w : World) : Calls Try.prog 66 #[.slice none 0 0, .int .i64 n] w (RoomF w) := by
  by_cases h0 : n = 0
  · subst h0
    go_enter Try.func66, Try.ntmps66
    go_wp2
    go_ret
    exact ⟨none, 0, rfl, by (show Grew _ _; repeat (first | exact Grew.refl _ | refine Grew.alloc ?_ _ | refine Grew.drew ?_ | refine Grew.more ?_ _)), own_none _ _ _ _⟩
  · obtain ⟨i, hi, hz, hs, hb⟩ := info_parts infoE
    have hpos : (0 : Int) < n := by omega
    have HR : Hid (∀ W : World, (Builtin.append_ #[22, 3] 22 #[.slice none 0 0, .int .i64 n]).run Try.prog W = .ok (.slice (some ⟨W.heap.size, 0, none⟩) n (grownCap W n 0 27)) (W.drew.alloc (.cells (Builtin.zeroCells (Value.agg #[.int .i64 0, .string ⟨#[]⟩, .string ⟨#[]⟩, .int .i64 0, .int .i64 0, .int .i64 0, .int .i64 0, .string ⟨#[]⟩, .slice none 0 0]).cells n ++ Builtin.zeroCells (Value.agg #[.int .i64 0, .string ⟨#[]⟩, .string ⟨#[]⟩, .int .i64 0, .int .i64 0, .int .i64 0, .int .i64 0, .string ⟨#[]⟩, .slice none 0 0]).cells (grownCap W n 0 27 - n)) 27))) := Lib.hid fun W =>
      Lib.run_append_nil_zeros W 22 3 22 27 i _ .i64 .i64 Try.underlying22 Try.underlying3 hi hz n (by omega) (by rw [hs]; decide) (by omega) (by rw [hb]; omega)
    have HO : Hid (∀ W : World, (W.drew.alloc (.cells (Builtin.zeroCells (Value.agg #[.int .i64 0, .string ⟨#[]⟩, .string ⟨#[]⟩, .int .i64 0, .int .i64 0, .int .i64 0, .int .i64 0, .string ⟨#[]⟩, .slice none 0 0]).cells n ++ Builtin.zeroCells (Value.agg #[.int .i64 0, .string ⟨#[]⟩, .string ⟨#[]⟩, .int .i64 0, .int .i64 0, .int .i64 0, .int .i64 0, .string ⟨#[]⟩, .slice none 0 0]).cells (grownCap W n 0 27 - n)) 27)).ownsRow W.heap.size 27 9 (.slice (some ⟨W.heap.size, 0, none⟩) 0 (grownCap W n 0 27)) 0 [] ∧ 0 ≤ (grownCap W n 0 27 : Int)) := Lib.hid fun W => by
      have h1 := grownCap_ge W n 0 27
      have h2 := grownCap_le_maxLen W n 0 27 (by unfold maxLen; omega)
      refine ⟨World.ownsRow_made W.drew _ _ (Nat.le_refl _) h2 ?_, by omega⟩
      rw [Array.size_append, size_zeroCells, size_zeroCells]
      simp only [Value.cells, List.size_toArray, List.length_cons, List.length_nil]
      omega
    clear hi hz hs hb
    go_enter Try.func66, Try.ntmps66
    go_wp2_with (at_builtin; refine Lib.wpList_append_run _ rfl _ _ _ _ rfl _ _ rfl rfl _ _ (HR.out _) ?_)
    go_ret
    exact ⟨_, _, rfl, by (show Grew _ _; repeat (first | exact Grew.refl _ | refine Grew.alloc ?_ _ | refine Grew.drew ?_ | refine Grew.more ?_ _)), (HO.out w).1⟩
def CatS (w : World) (ll : List (List Ex)) (v i : Value) (wr : World) : Prop := ∃ q : Nat, q ≤ ll.length ∧ i = .int .i64 q ∧ v = .int .i64 ((ll.take q).flatten.length : Nat) ∧ wr = w
def CatE (w : World) (ll : List (List Ex)) (v i : Value) (wr : World) : Prop := ∃ q : Nat, q ≤ ll.length ∧ i = .int .i64 q ∧ ExG wr w.heap.size v (ll.take q).flatten ∧ Grew w wr
/-- What lists are put together to: a row of one's own. -/
def CatF (w : World) (l : List Ex) (e : Ending) (w' : World) : Prop := ∃ A c, e = .returned (.slice A l.length c) ∧ Grew w w' ∧ ExG w' w.heap.size (.slice A l.length c) l
theorem flat_take (ll : List (List Ex)) {q : Nat} (h : q < ll.length) : (ll.take (q + 1)).flatten = (ll.take q).flatten ++ ll[q] := by
  rw [List.take_succ_eq_append_getElem h, List.flatten_append]
  simp
theorem flat_le (ll : List (List Ex)) (q : Nat) : (ll.take q).flatten.length ≤ ll.flatten.length := by
  conv => rhs; rw [← List.take_append_drop q ll, List.flatten_append, List.length_append]
  omega
set_option maxRecDepth 100000 in
theorem concat_any (ll : List (List Ex)) (X : Option Addr) (k : Nat) (hn : ll.flatten.length ≤ 1000000) (hm : ll.length ≤ 1000000) (w : World) (rX : XllR (PRow w) X ll) :
    Calls Try.prog 53 #[.slice X ll.length k] w (CatF w ll.flatten) := by
  have HX := Lib.hid rX
  have HGa : Hid (∀ n : Nat, n ≤ 1000000 → ∀ W, Calls Try.prog 66 #[.slice none 0 0, .int .i64 n] W (RoomF W)) := Lib.hid fun n hn W => grow_any n hn W
  have HLe := Lib.hid (flat_le ll)
  have HTk := Lib.hid (fun q => @flat_take ll q)
  obtain ⟨fin, hfin⟩ : ∃ fin, ll.flatten = fin := ⟨_, rfl⟩
  have HF := Lib.hid hfin
  rw [hfin] at hn HLe ⊢
  clear rX hfin
  go_enter Try.func53, Try.ntmps53
  go_wp2_with fail
  go_loopw [3, 11] (fun v i wr => CatS w ll v i wr) (fun _ i _ => ll.length - (intOf i).toNat)
  case atStart => exact ⟨0, Nat.zero_le _, rfl, by simp, rfl⟩
  case round =>
    obtain ⟨q, hq, rfl, rfl, hw⟩ := hrel
    have hw := hw.symm
    subst hw
    have hl1 := HLe.out q
    by_cases h : q < ll.length
    · obtain ⟨b, o, B, kb, rfl, hb, hc, _⟩ := xllR_at HX.out h
      have HT := Lib.hid (HTk.out q h)
      have hl2 := HLe.out (q + 1)
      rw [HT.out, List.length_append] at hl2
      generalize ll[q] = y at *
      generalize (ll.take q).flatten = l0 at *
      have e1 : IntKind.i64.wrap ((l0.length : Int) + (y.length : Int)) = ((l0.length + y.length : Nat) : Int) := by rw [IntWalk.i64_in _ (by omega)]; omega
      go_wp2
      exact ⟨⟨q + 1, by omega, by go_num, by rw [HT.out, List.length_append]; go_num, rfl⟩, by simp only [intOf]; omega⟩
    · obtain rfl : q = ll.length := by omega
      rw [List.take_length, HF.out]
      go_upto_region 10 with (go_at_call 66; (with_reducible refine (HGa.out _ hn _).mono ?_); rintro e w2 ⟨A2, c2, rfl, hg2, ho2⟩)
      have HO2 := Lib.hid ho2
      have HG2 := Lib.hid hg2
      clear hg2 ho2 HGa
      go_wp2_with fail
      go_loopw [6, 27] (fun v i wr => CatE w ll v i wr) (fun _ i _ => ll.length - (intOf i).toNat)
      case atStart => exact ⟨0, Nat.zero_le _, rfl, ⟨A2, c2, [], rfl, ListR.nil, HO2.out⟩, HG2.out⟩
      case round =>
        obtain ⟨q, hq, rfl, hx, hg⟩ := hrel
        have HG := Lib.hid hg
        have hl1 := HLe.out q
        by_cases h : q < ll.length
        · obtain ⟨A3, c3, css, rfl, hcs, ho⟩ := hx
          have HCs := Lib.hid hcs
          have HO := Lib.hid ho
          obtain ⟨b, o, B, kb, rfl, hb0, hc0, hy⟩ := xllR_at HX.out h
          obtain ⟨hb, hc⟩ := cell_grew hg hb0 hc0
          have HT := Lib.hid (HTk.out q h)
          have hl2 := HLe.out (q + 1)
          rw [HT.out, List.length_append] at hl2
          obtain ⟨dss, hd1, hd2⟩ := exs_in (g := (Value.slice A3 (ll.take q).flatten.length c3).ownBlock) hg (own_base ho) hy
          have HD1 := Lib.hid hd1
          have HD2 := Lib.hid hd2
          have hdl := hd1.flat
          have HD3 := Lib.hid (listR_one hd1)
          clear hg ho hcs hy hd1 hd2 hb0 hc0
          generalize ll[q] = y at *
          generalize (ll.take q).flatten = l0 at *
          go_wp2_with (at_builtin; refine wpList_apps rfl (.tmp 31) (.tmp 32) 22 27 9 rfl w (.agg #[.int .i64 0, .string ⟨#[]⟩, .string ⟨#[]⟩, .int .i64 0, .int .i64 0, .int .i64 0, .int .i64 0, .string ⟨#[]⟩, .slice none 0 0]) 112 Try.underlying22 infoE rfl (by decide) (by decide) _ l0.length css.flatten rfl HO.out B y.length kb dss.flatten rfl hdl HD2.out HD3.out (by omega) HG.out ?_; intro A6 c6 w6 ho6 _ hg6 hgb6 hor6; have HX6 := Lib.hid (ExG.app rfl rfl HCs.out HD1.out ho6 hgb6 hor6); have HG6 := Lib.hid hg6; clear ho6 hg6 hgb6 hor6)
          exact ⟨⟨q + 1, by omega, by go_num, by rw [HT.out]; exact HX6.out, HG6.out⟩, by simp only [intOf]; omega⟩
        · obtain rfl : q = ll.length := by omega
          rw [List.take_length, HF.out] at hx
          obtain ⟨A3, c3, css, rfl, hcs, ho⟩ := hx
          have HXf := Lib.hid (show ExG wr w.heap.size _ fin from ⟨A3, c3, css, rfl, hcs, ho⟩)
          clear hcs ho hg
          go_wp2
          go_ret
          exact ⟨_, _, rfl, HG.out, HXf.out⟩
end Go.Proofs.Ytchogpdfdpbpfaa

/- Layer 16: all conditions again, by the program. Condition: conditions that lie in memory that is there, no more than a thousand. -/
namespace Go.Proofs.Ytchogpdfdpbpfaa
open Go.RowKit
attribute [local go_sem] more_cell more_frozen more_more more_setCell more_of_drew more_of_drewN lt_more le_more past_cell past_cell2 past_frozen past_frozen2 past_setCell past_setCell2 mid_cell mid_frozen mid_setCell
attribute [local go_sem ↓] Go.wp_at_zero Go.wp_at_succ

/-- An expression that was made is handed back: its parts in a row of their own. -/
def ExFo (w : World) (x : Ex) (e : Ending) (w' : World) : Prop := ∃ A k, e = .returned (exV x A k) ∧ Grew w w' ∧ ExOwn w w' w.heap.size A k x.l
set_option maxHeartbeats 1000000 in
set_option maxRecDepth 100000 in
theorem of_own (op : Int) (l : List Ex) (A : Option Addr) (k : Nat) (hl : l.length ≤ 1000000) (w : World) (ra : ExsR (PRow w) A l) : Calls Try.prog 54 #[.int .i64 op, .slice A l.length k] w (ExFo w (.mk op es es 0 0 0 0 es l)) := by
  have HC : Hid (∀ W, Grew w W → Calls Try.prog 67 #[.slice A l.length k] W (OwnF w W l)) := Lib.hid fun W hW => clone_ex l A k hl w W hW ra
  clear ra
  go_enter Try.func54, Try.ntmps54
  go_wp2_with fail
  refine (HC.out _ ((Grew.refl w).alloc _)).mono ?_
  rintro e w2 ⟨A2, k2, rfl, hg2, css, hcs, ho⟩
  have hB : Blok w2 w.heap.size 27 #[.int .i64 0, .string ⟨#[]⟩, .string ⟨#[]⟩, .int .i64 0, .int .i64 0, .int .i64 0, .int .i64 0, .string ⟨#[]⟩, .slice none 0 0] := (Blok.new _ _ _ _ rfl).grew hg2
  have hGf := grew_nine (p := 0) (((Grew.refl w).alloc _).trans hg2) (Nat.le_refl w.heap.size) (.int .i64 op) (.string ⟨#[]⟩) (.string ⟨#[]⟩) (.int .i64 0) (.int .i64 0) (.int .i64 0) (.int .i64 0) (.string ⟨#[]⟩) (.slice A2 l.length k2)
  have hOf := own_below_nine (p := 0) ho (b := w.heap.size) (by simp) (.int .i64 op) (.string ⟨#[]⟩) (.string ⟨#[]⟩) (.int .i64 0) (.int .i64 0) (.int .i64 0) (.int .i64 0) (.string ⟨#[]⟩) (.slice A2 l.length k2)
  have hBf := blok_nine hB (.int .i64 op) (.string ⟨#[]⟩) (.string ⟨#[]⟩) (.int .i64 0) (.int .i64 0) (.int .i64 0) (.int .i64 0) (.string ⟨#[]⟩) (.slice A2 l.length k2)
  simp only [Nat.zero_add] at hGf hOf
  have HX : Hid (ExOwn w _ w.heap.size A2 k2 l) := Lib.hid ⟨css, hcs, own_le hOf (by simp)⟩
  have HG := Lib.hid hGf
  have HBf := Lib.hid hBf
  have d0 := hB.cell 0
  have d1 := hB.cell 1
  have d2 := hB.cell 2
  have d3 := hB.cell 3
  have d4 := hB.cell 4
  have d5 := hB.cell 5
  have d6 := hB.cell 6
  have d7 := hB.cell 7
  have d8 := hB.cell 8
  have z0 := hB.thaw 0
  have z1 := hB.thaw 1
  have z2 := hB.thaw 2
  have z3 := hB.thaw 3
  have z4 := hB.thaw 4
  have z5 := hB.thaw 5
  have z6 := hB.thaw 6
  have z7 := hB.thaw 7
  have z8 := hB.thaw 8
  have hlt := hB.lt
  simp at d0 d1 d2 d3 d4 d5 d6 d7 d8
  clear hg2 hcs ho hB hGf hOf hBf
  go_wp2
  clear d0 d1 d2 d3 d4 d5 d6 d7 d8 z0 z1 z2 z3 z4 z5 z6 z7 z8 hlt
  generalize (((((((((w2.setCell ⟨w.heap.size, 0, none⟩ (.int .i64 op)).setCell ⟨w.heap.size, 1, none⟩ (.string ⟨#[]⟩)).setCell ⟨w.heap.size, 2, none⟩ (.string ⟨#[]⟩)).setCell ⟨w.heap.size, 3, none⟩ (.int .i64 0)).setCell ⟨w.heap.size, 4, none⟩ (.int .i64 0)).setCell ⟨w.heap.size, 5, none⟩ (.int .i64 0)).setCell ⟨w.heap.size, 6, none⟩ (.int .i64 0)).setCell ⟨w.heap.size, 7, none⟩ (.string ⟨#[]⟩)).setCell ⟨w.heap.size, 8, none⟩ (.slice A2 l.length k2)) = Wf at *
  have r0 := HBf.out.cell 0
  have r1 := HBf.out.cell 1
  have r2 := HBf.out.cell 2
  have r3 := HBf.out.cell 3
  have r4 := HBf.out.cell 4
  have r5 := HBf.out.cell 5
  have r6 := HBf.out.cell 6
  have r7 := HBf.out.cell 7
  have r8 := HBf.out.cell 8
  simp at r0 r1 r2 r3 r4 r5 r6 r7 r8
  exact bodyPost_ret (v := .agg #[.int .i64 op, .string ⟨#[]⟩, .string ⟨#[]⟩, .int .i64 0, .int .i64 0, .int .i64 0, .int .i64 0, .string ⟨#[]⟩, .slice A2 l.length k2]) (by simp [results, Try.results54, go_sem, r0, r1, r2, r3, r4, r5, r6, r7, r8]) rfl ⟨A2, k2, rfl, HG.out, HX.out⟩
theorem ListR.mapM {α : Type} {R R' : α → List Value → Prop} {size : Nat} {l : List α} {css : List (List Value)} (h : ListR R size l css) (H : ∀ x ∈ l, ∀ cs, R x cs → R' x cs) : ListR R' size l css :=
  ⟨h.1, fun i x cs h1 h2 => ⟨H x (List.mem_of_getElem? h1) _ (h.2 i x cs h1 h2).1, (h.2 i x cs h1 h2).2⟩⟩
theorem exR_leaf {R R' : Rw} (H : ∀ e A, R' e A []) {x : Ex} {cs : List Value} (h : ExR R x cs) (hx : x.l = []) : ExR R' x cs := by
  obtain ⟨A, k, rfl, _⟩ := h.parts
  exact ExR.make (by rw [hx]; exact ⟨[], ListR.nil, H _ _⟩) k
/-- An expression with leaves alone, to be put into a row that lies below its parts. -/
theorem leaf_in {u w : World} {g : Option Nat} {base : Nat} {A : Option Addr} {k : Nat} {x : Ex} (h : ExOwn u w base A k x.l) (hg : ∀ b, g = some b → b < base) (hl : ∀ y ∈ x.l, y.l = []) : ListR (ExR (PRowN w g)) 9 [x] [exC x A k] := by
  obtain ⟨css, h1, h2⟩ := h
  exact listR_single ⟨css, h1.mapM fun y hy cs hc => exR_leaf (fun _ _ => Or.inl rfl) hc (hl y hy), PRowN.own h2 hg⟩ k
theorem xl3 {R : Rw} {a b c : List Ex} {A B C : Option Addr} {k j n : Nat} (ha : ExsR R A a) (hb : ExsR R B b) (hc : ExsR R C c) : ListR (XlR R) 1 [a, b, c] [[.slice A a.length k], [.slice B b.length j], [.slice C c.length n]] := by
  have h0 : ListR (XlR R) 1 ([] : List (List Ex)) [] := ListR.nil
  have h1 := h0.snoc (x := a) (cs := [.slice A a.length k]) ⟨_, _, rfl, ha⟩ rfl
  have h2 := h1.snoc (x := b) (cs := [.slice B b.length j]) ⟨_, _, rfl, hb⟩ rfl
  exact h2.snoc (x := c) (cs := [.slice C c.length n]) ⟨_, _, rfl, hc⟩ rfl
def colX (t c : Int) : Ex := .mk 15 es es t c 0 0 es []
def edX (e : Ed) : Ex := .mk 1 es es 0 0 0 0 es [colX e.a e.ac, colX e.b e.bc]
def allE (ll : List (List Ex)) (l : List Ed) (rs wh : List Ex) : List Ex := ll.flatten ++ l.map edX ++ rs ++ wh
/-- The cells of all conditions, by their lists. -/
def nqC (core : Int) (A : Option Addr) (n k : Nat) (B : Option Addr) (m j : Nat) (C : Option Addr) (p c : Nat) (D : Option Addr) (dn d : Nat) (E : Option Addr) (q e : Nat) : Array Value :=
  #[.int .i64 core, .slice A n k, .slice B m j, .slice C p c, .slice D dn d, .slice E q e]
def AllE (w : World) (l0 : List Ex) (es : List Ed) (v i : Value) (wr : World) : Prop := ∃ q : Nat, q ≤ es.length ∧ i = .int .i64 q ∧ ExG wr w.heap.size v (l0 ++ (es.take q).map edX) ∧ Grew w wr
def ExsF' (w : World) (l : List Ex) (e : Ending) (w' : World) : Prop := ∃ A k, e = .returned (.slice A l.length k) ∧ Grew w w' ∧ ExsR (PRow w') A l
set_option maxHeartbeats 4000000 in
set_option maxRecDepth 100000 in
theorem nall_any (core : Int) (ll : List (List Ex)) (l : List Ed) (rs wh : List Ex) (A : Option Addr) (k : Nat) (B : Option Addr) (j : Nat) (C : Option Addr) (c : Nat) (D : Option Addr) (dn d : Nat) (E : Option Addr) (e : Nat) (w : World)
    (h1 : XllR (PRow w) A ll) (h2 : EdsR (PRow w) B l) (h3 : ExsR (PRow w) C rs) (h4 : ExsR (PRow w) E wh) (hf : ll.flatten.length ≤ 1000) (hl : ll.length ≤ 1000) (he : l.length ≤ 1000) (hr : rs.length ≤ 1000) (hw : wh.length ≤ 1000) :
    Calls Try.prog 28 #[.agg (nqC core A ll.length k B l.length j C rs.length c D dn d E wh.length e)] w (ExsF' w (allE ll l rs wh)) := by
  have H1 := Lib.hid h1
  have H2 := Lib.hid h2
  have H3 := Lib.hid h3
  have H4 := Lib.hid h4
  have HCt : Hid (∀ (ll : List (List Ex)) (X : Option Addr) (k : Nat) (W : World), ll.flatten.length ≤ 1000000 → ll.length ≤ 1000000 → XllR (PRow W) X ll → Calls Try.prog 53 #[.slice X ll.length k] W (CatF W ll.flatten)) := Lib.hid fun ll X k W a b c => concat_any ll X k a b W c
  have HC2 := HCt
  have hes : ∀ q, (l.take q).length ≤ 1000 := fun q => by rw [List.length_take]; omega
  unfold allE
  have HC1 : Hid (∀ W, Grew w W → Calls Try.prog 53 #[.slice A ll.length k] W (CatF W ll.flatten)) := Lib.hid fun W hW => HCt.out ll A k W (by omega) (by omega) (H1.out.grew hW)
  clear HCt
  generalize ll.flatten = L0 at *
  have HFl := Lib.hid hf
  obtain ⟨fin, hfin⟩ : ∃ fin, L0 ++ l.map edX ++ rs ++ wh = fin := ⟨_, rfl⟩
  rw [hfin]
  have HFin0 := Lib.hid hfin
  clear hfin
  clear h1 h2 h3 h4 hf
  unfold nqC
  go_enter Try.func28, Try.ntmps28
  go_upto_region 1 with fail
  have HB : Hid (Blok (w.alloc (.cells #[.int .i64 core, .slice A ll.length k, .slice B l.length j, .slice C rs.length c, .slice D dn d, .slice E wh.length e] 44)) w.heap.size 44 #[.int .i64 core, .slice A ll.length k, .slice B l.length j, .slice C rs.length c, .slice D dn d, .slice E wh.length e]) := Lib.hid (Blok.new _ _ _ _ rfl)
  have HG0 : Hid (Grew w (w.alloc (.cells #[.int .i64 core, .slice A ll.length k, .slice B l.length j, .slice C rs.length c, .slice D dn d, .slice E wh.length e] 44))) := Lib.hid ((Grew.refl w).alloc _)
  generalize (w.alloc (.cells #[.int .i64 core, .slice A ll.length k, .slice B l.length j, .slice C rs.length c, .slice D dn d, .slice E wh.length e] 44)) = W1 at *
  generalize w.heap.size = bq at *
  obtain ⟨xl, x0, x1, x2, x3, x4, x5⟩ := nm_in HB.out
  go_upto_region 2 with (go_at_call 53; (with_reducible refine (HC1.out _ HG0.out).mono ?_); rintro e2 w2 ⟨A2, c2, rfl, hg2, hx2⟩)
  have HX2 := Lib.hid hx2
  have HG2 := Lib.hid hg2
  clear hx2 HC1 xl x0 x1 x2 x3 x4 x5
  obtain ⟨xl, x0, x1, x2, x3, x4, x5⟩ := nm_in (HB.out.grew hg2)
  clear hg2
  go_upto_region 3 with fail
  clear xl x0 x1 x2 x3 x4 x5
  go_loopw [3, 12] (fun v i wr => AllE W1 L0 l v i wr) (fun _ i _ => l.length - (intOf i).toNat)
  case atStart => exact ⟨0, Nat.zero_le _, rfl, by rw [List.take_zero, List.map_nil, List.append_nil]; exact HX2.out, HG2.out⟩
  case round =>
    obtain ⟨q, hq, rfl, hx, hg⟩ := hrel
    have HG := Lib.hid hg
    have hl1 := HFl.out
    by_cases h : q < l.length
    · have HT : Hid (L0 ++ (l.take (q + 1)).map edX = (L0 ++ (l.take q).map edX) ++ [edX l[q]]) := Lib.hid (by rw [List.take_succ_eq_append_getElem h, List.map_append, List.append_assoc]; rfl)
      obtain ⟨b, o, rfl, hb0, a0, a1, a2, a3⟩ := edsR_at ((H2.out.grew HG0.out).grew hg) h
      have hlq : (L0 ++ (l.take q).map edX).length = L0.length + q := by simp; omega
      obtain ⟨A3, c3, css, rfl, hcs, ho⟩ := hx
      have HCs := Lib.hid hcs
      have HO := Lib.hid ho
      clear hg hcs ho
      generalize l[q] = y at *
      generalize L0 ++ (l.take q).map edX = l0 at *
      have hl2 : l0.length ≤ 2000 := by omega
      clear hlq
      have HOf : Hid (∀ W X, ExsR (PRow W) X [colX y.a y.ac, colX y.b y.bc] → Calls Try.prog 54 #[.int .i64 1, .slice X 2 2] W fun e w' => ∃ A k, e = .returned (.agg #[.int .i64 1, .string ⟨#[]⟩, .string ⟨#[]⟩, .int .i64 0, .int .i64 0, .int .i64 0, .int .i64 0, .string ⟨#[]⟩, .slice A 2 k]) ∧ Grew W w' ∧ ExOwn W w' W.heap.size A k (edX y).l) := Lib.hid fun W X hX => of_own 1 _ X 2 (by simp) W hX
      have HLf : Hid (∀ z ∈ (edX y).l, z.l = []) := Lib.hid (by
        intro z hz
        simp only [edX, Ex.l, List.mem_cons, List.not_mem_nil, or_false] at hz
        rcases hz with rfl | rfl <;> rfl)
      go_upto_region 5 with fail
      have HBe : Hid (Blok (wr.alloc (.cells #[.int .i64 y.a, .int .i64 y.ac, .int .i64 y.b, .int .i64 y.bc] 34)) wr.heap.size 34 #[.int .i64 y.a, .int .i64 y.ac, .int .i64 y.b, .int .i64 y.bc]) := Lib.hid (Blok.new _ _ _ _ rfl)
      have HGe : Hid (Grew wr (wr.alloc (.cells #[.int .i64 y.a, .int .i64 y.ac, .int .i64 y.b, .int .i64 y.bc] 34))) := Lib.hid ((Grew.refl wr).alloc _)
      have hob : ∀ i, (Value.slice A3 l0.length c3).ownBlock = some i → i < wr.heap.size := own_lt HO.out
      have HLt := Lib.hid hob
      clear hb0 a0 a1 a2 a3 hob
      generalize (wr.alloc (.cells #[.int .i64 y.a, .int .i64 y.ac, .int .i64 y.b, .int .i64 y.bc] 34)) = W4 at *
      generalize wr.heap.size = be at *
      have hG4 : Grew W4 W4.drew := (Grew.refl W4).drew
      have hS0 := HBe.out.grew hG4
      refine wp_region_S (fun W => Blok W be 34 #[.int .i64 y.a, .int .i64 y.ac, .int .i64 y.b, .int .i64 y.bc]) (by kernel_rfl) ?_
      refine held_take 0 (v := ?_) rfl (by kernel_rfl) (by kernel_rfl) (by kernel_rfl) (fun _ _ _ h => h) (by rfl) ?_ hS0 ?_
      rotate_left
      · (intro W hW; obtain ⟨r0, d0, d1, d2, d3, _, _, _, _⟩ := ed_in hW; go_simp; with_reducible rfl)
      refine held_take 1 (v := ?_) rfl (by kernel_rfl) (by kernel_rfl) (by kernel_rfl) (fun _ _ _ h => h) (by rfl) ?_ hS0 ?_
      rotate_left
      · (intro W hW; obtain ⟨r0, d0, d1, d2, d3, _, _, _, _⟩ := ed_in hW; go_simp; with_reducible rfl)
      refine held_take 2 (v := ?_) rfl (by kernel_rfl) (by kernel_rfl) (by kernel_rfl) (fun _ _ _ h => h) (by rfl) ?_ hS0 ?_
      rotate_left
      · (intro W hW; obtain ⟨r0, d0, d1, d2, d3, _, _, _, _⟩ := ed_in hW; go_simp; with_reducible rfl)
      refine held_take 3 (v := ?_) rfl (by kernel_rfl) (by kernel_rfl) (by kernel_rfl) (fun _ _ _ h => h) (by rfl) ?_ hS0 ?_
      rotate_left
      · (intro W hW; obtain ⟨r0, d0, d1, d2, d3, _, _, _, _⟩ := ed_in hW; go_simp; with_reducible rfl)
      refine held_take 4 (v := ?_) rfl (by kernel_rfl) (by kernel_rfl) (by kernel_rfl) (fun _ _ _ h => h) (by rfl) ?_ hS0 ?_
      rotate_left
      · (intro W hW; obtain ⟨r0, d0, d1, d2, d3, _, _, _, _⟩ := ed_in hW; go_simp; with_reducible rfl)
      refine held_take 6 (v := ?_) rfl (by kernel_rfl) (by kernel_rfl) (by kernel_rfl) (fun _ _ _ h => h) (by rfl) ?_ hS0 ?_
      rotate_left
      · (intro W hW; obtain ⟨r0, d0, d1, d2, d3, _, _, _, _⟩ := ed_in hW; go_simp; with_reducible rfl)
      refine held_take 7 (v := ?_) rfl (by kernel_rfl) (by kernel_rfl) (by kernel_rfl) (fun _ _ _ h => h) (by rfl) ?_ hS0 ?_
      rotate_left
      · (intro W hW; obtain ⟨r0, d0, d1, d2, d3, _, _, _, _⟩ := ed_in hW; go_simp; with_reducible rfl)
      refine held_take 8 (v := ?_) rfl (by kernel_rfl) (by kernel_rfl) (by kernel_rfl) (fun _ _ _ h => h) (by rfl) ?_ hS0 ?_
      rotate_left
      · (intro W hW; obtain ⟨r0, d0, d1, d2, d3, _, _, _, _⟩ := ed_in hW; go_simp; with_reducible rfl)
      refine held_take 9 (v := ?_) rfl (by kernel_rfl) (by kernel_rfl) (by kernel_rfl) (fun _ _ _ h => h) (by rfl) ?_ hS0 ?_
      rotate_left
      · (intro W hW; obtain ⟨r0, d0, d1, d2, d3, _, _, _, _⟩ := ed_in hW; go_simp; with_reducible rfl)
      refine held_norm (a' := ?_) ?_ ?_
      rotate_left
      · (go_simp; with_reducible rfl)
      refine held_call 5 (by kernel_rfl) rfl (by rfl) (fun K hK => ?_)
      go_simp
      go_wp2_with ((go_at_call 55; (with_reducible refine (column_ex _ _ _).grows.mono ?_); rintro e3 w3 ⟨rfl, hg3⟩; have hS3 := hS0.grew hg3))
      refine hK.out _ _ hS3 ?_
      clear hK K
      refine held_call 10 (by kernel_rfl) rfl (by rfl) (fun K hK => ?_)
      go_simp
      go_wp2_with ((go_at_call 55; (with_reducible refine (column_ex _ _ _).grows.mono ?_); rintro e4 w4 ⟨rfl, hg4⟩; have hS4 := hS3.grew hg4))
      refine hK.out _ _ hS4 ?_
      clear hK K
      refine held_call 11 (by kernel_rfl) rfl (by rfl) (fun K hK => ?_)
      go_simp
      have hg5 : Grew w4 (w4.alloc (.cells #[.int .i64 15, .string ⟨#[]⟩, .string ⟨#[]⟩, .int .i64 y.a, .int .i64 y.ac, .int .i64 0, .int .i64 0, .string ⟨#[]⟩, .slice none 0 0, .int .i64 15, .string ⟨#[]⟩, .string ⟨#[]⟩, .int .i64 y.b, .int .i64 y.bc, .int .i64 0, .int .i64 0, .string ⟨#[]⟩, .slice none 0 0] 27)) := (Grew.refl w4).alloc _
      have hx5 : ExsR (PRow (w4.alloc (.cells #[.int .i64 15, .string ⟨#[]⟩, .string ⟨#[]⟩, .int .i64 y.a, .int .i64 y.ac, .int .i64 0, .int .i64 0, .string ⟨#[]⟩, .slice none 0 0, .int .i64 15, .string ⟨#[]⟩, .string ⟨#[]⟩, .int .i64 y.b, .int .i64 y.bc, .int .i64 0, .int .i64 0, .string ⟨#[]⟩, .slice none 0 0] 27))) (some ⟨w4.heap.size, 0, none⟩) [colX y.a y.ac, colX y.b y.bc] :=
        ⟨[exC (colX y.a y.ac) none 0, exC (colX y.b y.bc) none 0], listR_append (listR_single (exs_nil _) 0) (listR_single (exs_nil _) 0), row_new w4 27 w4.heap.size #[.int .i64 15, .string ⟨#[]⟩, .string ⟨#[]⟩, .int .i64 y.a, .int .i64 y.ac, .int .i64 0, .int .i64 0, .string ⟨#[]⟩, .slice none 0 0, .int .i64 15, .string ⟨#[]⟩, .string ⟨#[]⟩, .int .i64 y.b, .int .i64 y.bc, .int .i64 0, .int .i64 0, .string ⟨#[]⟩, .slice none 0 0] rfl⟩
      have hS5 := hS4.grew hg5
      have hG5 := ((hG4.trans hg3).trans hg4).trans hg5
      refine hK.out _ _ hS5 ?_
      clear hK K
      clear hS0 hS3 hS4 hG4 hg3 hg4 hg5
      generalize (w4.alloc (.cells #[.int .i64 15, .string ⟨#[]⟩, .string ⟨#[]⟩, .int .i64 y.a, .int .i64 y.ac, .int .i64 0, .int .i64 0, .string ⟨#[]⟩, .slice none 0 0, .int .i64 15, .string ⟨#[]⟩, .string ⟨#[]⟩, .int .i64 y.b, .int .i64 y.bc, .int .i64 0, .int .i64 0, .string ⟨#[]⟩, .slice none 0 0] 27)) = W5 at *
      have HX5 := Lib.hid hx5
      clear hx5
      refine held_call 12 (by kernel_rfl) rfl (by rfl) (fun K hK => ?_)
      go_simp
      go_wp2_with ((go_at_call 54; (with_reducible refine (HOf.out _ _ HX5.out).mono ?_); rintro e6 w6 ⟨A6, k6, rfl, hg6, ho6⟩; have hS6 := hS5.grew hg6))
      refine hK.out _ _ hS6 ?_
      clear hK K
      have hw6 : W5.heap.size ≤ w6.heap.size := hg6.size
      have hG6 := hG5.trans hg6
      have hL6 : be < W5.heap.size := hS5.lt
      have HD6 := Lib.hid (leaf_in (g := (Value.slice A3 l0.length c3).ownBlock) (k := k6) ho6 (fun b hb => by have := HLt.out b hb; omega) HLf.out)
      clear ho6 hg6
      refine held_call 13 (by kernel_rfl) rfl (by rfl) (fun K hK => ?_)
      go_simp
      have hg7 : Grew w6 (w6.alloc (.cells #[.int .i64 1, .string ⟨#[]⟩, .string ⟨#[]⟩, .int .i64 0, .int .i64 0, .int .i64 0, .int .i64 0, .string ⟨#[]⟩, .slice A6 2 k6] 27)) := (Grew.refl w6).alloc _
      have hr7 : Row (w6.alloc (.cells #[.int .i64 1, .string ⟨#[]⟩, .string ⟨#[]⟩, .int .i64 0, .int .i64 0, .int .i64 0, .int .i64 0, .string ⟨#[]⟩, .slice A6 2 k6] 27)) (some ⟨w6.heap.size, 0, none⟩) [exC (edX y) A6 k6].flatten := row_new w6 27 w6.heap.size #[.int .i64 1, .string ⟨#[]⟩, .string ⟨#[]⟩, .int .i64 0, .int .i64 0, .int .i64 0, .int .i64 0, .string ⟨#[]⟩, .slice A6 2 k6] rfl
      have hS7 := hS6.grew hg7
      have hG7 := (HGe.out.trans hG6).trans hg7
      refine hK.out _ _ hS7 ?_
      clear hK K
      have HD7 := Lib.hid (HD6.out.map fun x cs hx => hx.map (PRowN.grew hg7))
      clear hg7 hS5 hS6 hG5 hG6
      have HR7 := Lib.hid hr7
      generalize (w6.alloc (.cells #[.int .i64 1, .string ⟨#[]⟩, .string ⟨#[]⟩, .int .i64 0, .int .i64 0, .int .i64 0, .int .i64 0, .string ⟨#[]⟩, .slice A6 2 k6] 27)) = W7 at *
      clear hr7
      refine held_call 14 (by kernel_rfl) rfl (by rfl) (fun K hK => ?_)
      refine wp_apps (.tmp 16) (.tmp 29) 22 27 9 rfl W1 (.agg #[.int .i64 0, .string ⟨#[]⟩, .string ⟨#[]⟩, .int .i64 0, .int .i64 0, .int .i64 0, .int .i64 0, .string ⟨#[]⟩, .slice none 0 0]) 112 Try.underlying22 infoE rfl (by decide) (by decide) _ l0.length css.flatten rfl (own_grewE HO.out hG7) (some ⟨w6.heap.size, 0, none⟩) 1 1 [exC (edX y) A6 k6].flatten rfl rfl HR7.out (listR_one HD7.out) (by omega) (HG.out.trans hG7) ?_
      intro A8 c8 w8 ho8 _ hg8 hgb8 hor8
      have hS8 := hS7.grown hgb8 (fun e => by have := HLt.out _ e; omega)
      have HX8 := Lib.hid (ExG.app rfl rfl (HCs.out.map fun x cs hx => hx.map (PRowN.grew hG7)) HD7.out ho8 hgb8 hor8)
      have HG8 := Lib.hid hg8
      refine hK.out _ _ hS8 ?_
      clear hK K
      go_simp
      clear hgb8 hor8 ho8 hg8
      refine held_take 15 (v := ?_) rfl (by kernel_rfl) (by kernel_rfl) (by kernel_rfl) (fun _ _ _ h => h) (by rfl) ?_ hS8 ?_
      rotate_left
      · (intro W hW; go_simp; with_reducible rfl)
      refine held_norm (a' := ?_) ?_ ?_
      rotate_left
      · (go_simp; with_reducible rfl)
      refine held_done (by kernel_rfl) ?_
      clear hS8 hS7
      go_wp2
      exact ⟨⟨q + 1, by omega, by go_num, by rw [HT.out]; exact HX8.out, HG8.out⟩, by simp only [intOf]; omega⟩
    · obtain rfl : q = l.length := by omega
      rw [List.take_length] at hx
      have hln : (L0 ++ l.map edX).length ≤ 2000 := by simp; omega
      obtain ⟨A3, k3, rfl, hx3⟩ := hx.exs
      have hG1 := HG0.out.trans hg
      have hx4 : XllR (PRow (wr.alloc (.cells #[.slice A3 (L0 ++ l.map edX).length k3, .slice C rs.length c, .slice E wh.length e] 22))) (some ⟨wr.heap.size, 0, none⟩) [L0 ++ l.map edX, rs, wh] :=
        ⟨[[.slice A3 (L0 ++ l.map edX).length k3], [.slice C rs.length c], [.slice E wh.length e]], xl3 (hx3.grew ((Grew.refl wr).alloc _)) (H3.out.grew (hG1.alloc _)) (H4.out.grew (hG1.alloc _)), row_new wr 22 wr.heap.size #[.slice A3 (L0 ++ l.map edX).length k3, .slice C rs.length c, .slice E wh.length e] rfl⟩
      obtain ⟨xl, x0, x1, x2, x3, x4, x5⟩ := nm_in (HB.out.grew hg)
      have HFin : Hid (fin = [L0 ++ l.map edX, rs, wh].flatten) := Lib.hid (by rw [← HFin0.out]; simp)
      have hle : [L0 ++ l.map edX, rs, wh].flatten.length ≤ 1000000 := by simp at hln ⊢; omega
      have HC3 := Lib.hid (HC2.out [L0 ++ l.map edX, rs, wh] (some ⟨wr.heap.size, 0, none⟩) 3 _ hle (by simp) hx4)
      have HG1 := Lib.hid hG1
      rw [← HFin.out] at HC3
      clear hle hx3 hx4 hG1 hg HC2 HFin HFin0
      generalize (L0 ++ l.map edX).length = nl at *
      go_wp2_with fail
      refine HC3.out.mono ?_
      rintro e9 w9 ⟨A9, c9, rfl, hg9, hx9⟩
      have HX9 := Lib.hid hx9
      have HG9 := Lib.hid ((HG1.out.alloc _).trans hg9)
      clear hg9 hx9 xl x0 x1 x2 x3 x4 x5
      go_wp2
      go_ret
      obtain ⟨A', k', e', hx'⟩ := HX9.out.exs
      injection e' with e1 _ _
      subst e1
      exact ⟨A9, c9, rfl, HG9.out, hx'⟩
end Go.Proofs.Ytchogpdfdpbpfaa

/- Layer 16: all conditions again, by the document. Condition: conditions that lie in memory that is there, no more than a thousand. -/
namespace Go.Proofs.Ytchogpdfdpbpfaa
open Go.RowKit
attribute [local go_sem] more_cell more_frozen more_more more_setCell more_of_drew more_of_drewN lt_more le_more past_cell past_cell2 past_frozen past_frozen2 past_setCell past_setCell2 mid_cell mid_frozen mid_setCell
attribute [local go_sem ↓] Go.wp_at_zero Go.wp_at_succ

def RAll1 (w : World) (ll : List (List Ex)) (v i : Value) (wr : World) : Prop := ∃ q : Nat, q ≤ ll.length ∧ i = .int .i64 q ∧ ExG wr w.heap.size v (ll.take q).flatten ∧ Grew w wr
set_option maxHeartbeats 4000000 in
set_option maxRecDepth 100000 in
theorem rall16_any (core : Int) (ll : List (List Ex)) (l : List Ed) (rs wh : List Ex) (A : Option Addr) (k : Nat) (B : Option Addr) (j : Nat) (C : Option Addr) (c : Nat) (D : Option Addr) (dn d : Nat) (E : Option Addr) (e : Nat) (w : World)
    (h1 : XllR (PRow w) A ll) (h2 : EdsR (PRow w) B l) (h3 : ExsR (PRow w) C rs) (h4 : ExsR (PRow w) E wh) (hf : ll.flatten.length ≤ 1000) (hl : ll.length ≤ 1000) (he : l.length ≤ 1000) (hr : rs.length ≤ 1000) (hw : wh.length ≤ 1000) :
    Calls Try.prog 29 #[.agg (nqC core A ll.length k B l.length j C rs.length c D dn d E wh.length e)] w (ExsF' w (allE ll l rs wh)) := by
  have H1 := Lib.hid h1
  have H2 := Lib.hid h2
  have H3 := Lib.hid h3
  have H4 := Lib.hid h4
  have HLe := Lib.hid (flat_le ll)
  have HTk := Lib.hid (fun q => @flat_take ll q)
  unfold allE
  obtain ⟨L0, hL0⟩ : ∃ L0, ll.flatten = L0 := ⟨_, rfl⟩
  rw [hL0] at hf HLe ⊢
  have HL0 := Lib.hid hL0
  have HFl := Lib.hid hf
  obtain ⟨fin, hfin⟩ : ∃ fin, L0 ++ l.map edX ++ rs ++ wh = fin := ⟨_, rfl⟩
  rw [hfin]
  have HFin := Lib.hid hfin
  clear h1 h2 h3 h4 hf hfin hL0
  unfold nqC
  go_enter Try.func29, Try.ntmps29
  go_upto_region 1 with fail
  have HB : Hid (Blok (w.alloc (.cells #[.int .i64 core, .slice A ll.length k, .slice B l.length j, .slice C rs.length c, .slice D dn d, .slice E wh.length e] 44)) w.heap.size 44 #[.int .i64 core, .slice A ll.length k, .slice B l.length j, .slice C rs.length c, .slice D dn d, .slice E wh.length e]) := Lib.hid (Blok.new _ _ _ _ rfl)
  have HG0 : Hid (Grew w (w.alloc (.cells #[.int .i64 core, .slice A ll.length k, .slice B l.length j, .slice C rs.length c, .slice D dn d, .slice E wh.length e] 44))) := Lib.hid ((Grew.refl w).alloc _)
  generalize (w.alloc (.cells #[.int .i64 core, .slice A ll.length k, .slice B l.length j, .slice C rs.length c, .slice D dn d, .slice E wh.length e] 44)) = W1 at *
  generalize w.heap.size = bq at *
  go_wp2_with fail
  go_loopw [3, 4] (fun v i wr => RAll1 W1 ll v i wr) (fun _ i _ => ll.length - (intOf i).toNat)
  case atStart => exact ⟨0, Nat.zero_le _, rfl, ExG.nil _ _, Grew.refl _⟩
  case round =>
    obtain ⟨q, hq, rfl, hx, hg⟩ := hrel
    have HG := Lib.hid hg
    have hl1 := HLe.out q
    have hl0 := HFl.out
    by_cases h : q < ll.length
    · obtain ⟨A3, c3, css, rfl, hcs, ho⟩ := hx
      have HCs := Lib.hid hcs
      have HO := Lib.hid ho
      obtain ⟨b, o, K, kb, rfl, hb0, hc0, hy⟩ := xllR_at (H1.out.grew HG0.out) h
      obtain ⟨hb, hc⟩ := cell_grew hg hb0 hc0
      obtain ⟨xl, x0, x1, x2, x3, x4, x5⟩ := nm_in (HB.out.grew hg)
      have HT := Lib.hid (HTk.out q h)
      have hl2 := HLe.out (q + 1)
      rw [HT.out, List.length_append] at hl2
      obtain ⟨dss, hd1, hd2⟩ := exs_in (g := (Value.slice A3 (ll.take q).flatten.length c3).ownBlock) hg (own_base ho) hy
      have HD1 := Lib.hid hd1
      have HD2 := Lib.hid hd2
      have hdl := hd1.flat
      have HD3 := Lib.hid (listR_one hd1)
      clear hg ho hcs hy hd1 hd2 hb0 hc0
      generalize ll[q] = y at *
      generalize (ll.take q).flatten = l0 at *
      go_wp2_with (at_builtin; refine wpList_apps rfl (.tmp 14) (.tmp 19) 22 27 9 rfl W1 (.agg #[.int .i64 0, .string ⟨#[]⟩, .string ⟨#[]⟩, .int .i64 0, .int .i64 0, .int .i64 0, .int .i64 0, .string ⟨#[]⟩, .slice none 0 0]) 112 Try.underlying22 infoE rfl (by decide) (by decide) _ l0.length css.flatten rfl HO.out K y.length kb dss.flatten rfl hdl HD2.out HD3.out (by omega) HG.out ?_; intro A6 c6 w6 ho6 _ hg6 hgb6 hor6; have HX6 := Lib.hid (ExG.app rfl rfl HCs.out HD1.out ho6 hgb6 hor6); have HG6 := Lib.hid hg6; clear ho6 hg6 hgb6 hor6)
      exact ⟨⟨q + 1, by omega, by go_num, by rw [HT.out]; exact HX6.out, HG6.out⟩, by simp only [intOf]; omega⟩
    · obtain rfl : q = ll.length := by omega
      rw [List.take_length, HL0.out] at hx
      obtain ⟨xl, x0, x1, x2, x3, x4, x5⟩ := nm_in (HB.out.grew hg)
      obtain ⟨A2, c2, css2, rfl, hcs2, ho2⟩ := hx
      have HX2 := Lib.hid (show ExG wr W1.heap.size _ L0 from ⟨A2, c2, css2, rfl, hcs2, ho2⟩)
      clear hl1 hcs2 ho2 HL0 HTk HLe
      go_upto_region 6 with fail
      clear xl x0 x1 x2 x3 x4 x5 hg
      go_wp2_with fail
      go_loopw [3, 5] (fun v i wr => AllE W1 L0 l v i wr) (fun _ i _ => l.length - (intOf i).toNat)
      case atStart => exact ⟨0, Nat.zero_le _, rfl, by rw [List.take_zero, List.map_nil, List.append_nil]; exact HX2.out, HG.out⟩
      case round =>
        obtain ⟨q, hq, rfl, hx, hg⟩ := hrel
        have HGr := Lib.hid hg
        by_cases h : q < l.length
        · have HT : Hid (L0 ++ (l.take (q + 1)).map edX = (L0 ++ (l.take q).map edX) ++ [edX l[q]]) := Lib.hid (by rw [List.take_succ_eq_append_getElem h, List.map_append, List.append_assoc]; rfl)
          obtain ⟨b, o, rfl, hb0, a0, a1, a2, a3⟩ := edsR_at ((H2.out.grew HG0.out).grew hg) h
          obtain ⟨xl, x0, x1, x2, x3, x4, x5⟩ := nm_in (HB.out.grew hg)
          have hlq : (L0 ++ (l.take q).map edX).length = L0.length + q := by simp; omega
          obtain ⟨A3, c3, css, rfl, hcs, ho⟩ := hx
          have HCs := Lib.hid hcs
          have HO := Lib.hid ho
          clear hg hcs ho
          generalize l[q] = y at *
          generalize L0 ++ (l.take q).map edX = l0 at *
          have hl2 : l0.length ≤ 2000 := by omega
          clear hlq
          go_upto_region 10 with fail
          obtain ⟨W4, hW4⟩ : ∃ W4, W4 = wr.alloc (.cells #[.int .i64 y.a, .int .i64 y.ac, .int .i64 y.b, .int .i64 y.bc] 34) := ⟨_, rfl⟩
          have HBe : Hid (Blok W4 wr.heap.size 34 #[.int .i64 y.a, .int .i64 y.ac, .int .i64 y.b, .int .i64 y.bc]) := Lib.hid (by rw [hW4]; exact Blok.new _ _ _ _ rfl)
          have HGe : Hid (Grew wr W4) := Lib.hid (by rw [hW4]; exact (Grew.refl wr).alloc _)
          rw [← hW4]
          clear hW4 hb0 a0 a1 a2 a3 xl x0 x1 x2 x3 x4 x5
          have hob : ∀ i, (Value.slice A3 l0.length c3).ownBlock = some i → i < wr.heap.size := own_lt HO.out
          have HLt := Lib.hid hob
          clear hob
          obtain ⟨r0, d0, d1, d2, d3, _, _, _, _⟩ := ed_in HBe.out
          generalize wr.heap.size = be at *
          have HLt2 : Hid (be < W4.heap.size) := Lib.hid r0
          generalize hcc : (Obj.cells #[.int .i64 15, .string ⟨#[]⟩, .string ⟨#[]⟩, .int .i64 y.a, .int .i64 y.ac, .int .i64 0, .int .i64 0, .string ⟨#[]⟩, .slice none 0 0, .int .i64 15, .string ⟨#[]⟩, .string ⟨#[]⟩, .int .i64 y.b, .int .i64 y.bc, .int .i64 0, .int .i64 0, .string ⟨#[]⟩, .slice none 0 0] 27) = cc
          have HR5 : Hid (Row (W4.alloc cc) (some ⟨W4.heap.size, 0, none⟩) [exC (colX y.a y.ac) none 0, exC (colX y.b y.bc) none 0].flatten) := Lib.hid (by rw [← hcc]; exact row_new W4 27 W4.heap.size #[.int .i64 15, .string ⟨#[]⟩, .string ⟨#[]⟩, .int .i64 y.a, .int .i64 y.ac, .int .i64 0, .int .i64 0, .string ⟨#[]⟩, .slice none 0 0, .int .i64 15, .string ⟨#[]⟩, .string ⟨#[]⟩, .int .i64 y.b, .int .i64 y.bc, .int .i64 0, .int .i64 0, .string ⟨#[]⟩, .slice none 0 0] rfl)
          have HD6 : Hid (ListR (ExR (PRowN (W4.alloc cc) (Value.slice A3 l0.length c3).ownBlock)) 9 [edX y] [exC (edX y) (some ⟨W4.heap.size, 0, none⟩) 2]) := Lib.hid (by
            refine listR_single ⟨[exC (colX y.a y.ac) none 0, exC (colX y.b y.bc) none 0], listR_append (listR_single ⟨[], ListR.nil, Or.inl rfl⟩ 0) (listR_single ⟨[], ListR.nil, Or.inl rfl⟩ 0), ?_⟩ 2
            rcases HR5.out with h | ⟨b, o, hA, hlt, hc⟩
            · exact Or.inl h
            · refine Or.inr ⟨b, o, hA, hlt, fun h => ?_, hc⟩
              have h1 := HLt.out b h.symm
              have h2 := HLt2.out
              injection hA with hA
              injection hA with e1 _ _
              omega)
          subst hcc
          go_wp2_with (at_builtin; refine wpList_apps rfl (.tmp 33) (.tmp 46) 22 27 9 rfl W1 (.agg #[.int .i64 0, .string ⟨#[]⟩, .string ⟨#[]⟩, .int .i64 0, .int .i64 0, .int .i64 0, .int .i64 0, .string ⟨#[]⟩, .slice none 0 0]) 112 Try.underlying22 infoE rfl (by decide) (by decide) _ l0.length css.flatten rfl (own_alloc (own_alloc (own_grewE HO.out HGe.out) _) _) _ 1 1 [exC (edX y) (some ⟨W4.heap.size, 0, none⟩) 2].flatten rfl rfl (row_new _ 27 _ #[.int .i64 1, .string ⟨#[]⟩, .string ⟨#[]⟩, .int .i64 0, .int .i64 0, .int .i64 0, .int .i64 0, .string ⟨#[]⟩, .slice (some ⟨W4.heap.size, 0, none⟩) 2 2] (by simp)) (listR_one HD6.out) (by omega) (((HGr.out.trans HGe.out).alloc _).alloc _) ?_; intro A6 c6 w6 ho6 _ hg6 hgb6 hor6; have HX6 := Lib.hid (ExG.app rfl rfl (HCs.out.map fun x cs hx => hx.map (PRowN.grew ((HGe.out.alloc _).alloc _))) (HD6.out.map fun x cs hx => hx.map (PRowN.grew ((Grew.refl _).alloc _))) ho6 hgb6 hor6); have HG6 := Lib.hid hg6; clear ho6 hg6 hgb6 hor6)
          exact ⟨⟨q + 1, by omega, by go_num, by rw [HT.out]; exact HX6.out, HG6.out⟩, by simp only [intOf]; omega⟩
        · obtain rfl : q = l.length := by omega
          rw [List.take_length] at hx
          have hln : (L0 ++ l.map edX).length ≤ 2000 := by simp; omega
          obtain ⟨xl, x0, x1, x2, x3, x4, x5⟩ := nm_in (HB.out.grew hg)
          generalize L0 ++ l.map edX = l0 at *
          obtain ⟨A3, c3, css, rfl, hcs, ho⟩ := hx
          have HCs := Lib.hid (hcs.map fun x cs hx => hx.map (PRowN.grew (Grew.refl wr).drew))
          have HO := Lib.hid (own_grewE ho (Grew.refl wr).drew)
          clear hcs ho
          go_upto_region 11 with fail
          clear xl x0 x1 x2 x3 x4 x5
          have hS0 : Grew W1 wr.drew := hg.drew
          refine wp_region_S (fun W => Grew W1 W) (by kernel_rfl) ?_
          refine held_take 0 (v := ?_) rfl (by kernel_rfl) (by kernel_rfl) (by kernel_rfl) (fun _ _ _ h => h) (by rfl) ?_ hS0 ?_
          rotate_left
          · (intro W hW; obtain ⟨xl, x0, x1, x2, x3, x4, x5⟩ := nm_in (HB.out.grew hW); go_simp; with_reducible rfl)
          refine held_take 1 (v := ?_) rfl (by kernel_rfl) (by kernel_rfl) (by kernel_rfl) (fun _ _ _ h => h) (by rfl) ?_ hS0 ?_
          rotate_left
          · (intro W hW; obtain ⟨xl, x0, x1, x2, x3, x4, x5⟩ := nm_in (HB.out.grew hW); go_simp; with_reducible rfl)
          refine held_take 2 (v := ?_) rfl (by kernel_rfl) (by kernel_rfl) (by kernel_rfl) (fun _ _ _ h => h) (by rfl) ?_ hS0 ?_
          rotate_left
          · (intro W hW; obtain ⟨xl, x0, x1, x2, x3, x4, x5⟩ := nm_in (HB.out.grew hW); go_simp; with_reducible rfl)
          refine held_take 4 (v := ?_) rfl (by kernel_rfl) (by kernel_rfl) (by kernel_rfl) (fun _ _ _ h => h) (by rfl) ?_ hS0 ?_
          rotate_left
          · (intro W hW; obtain ⟨xl, x0, x1, x2, x3, x4, x5⟩ := nm_in (HB.out.grew hW); go_simp; with_reducible rfl)
          refine held_take 5 (v := ?_) rfl (by kernel_rfl) (by kernel_rfl) (by kernel_rfl) (fun _ _ _ h => h) (by rfl) ?_ hS0 ?_
          rotate_left
          · (intro W hW; obtain ⟨xl, x0, x1, x2, x3, x4, x5⟩ := nm_in (HB.out.grew hW); go_simp; with_reducible rfl)
          refine held_norm (a' := ?_) ?_ ?_
          rotate_left
          · (go_simp; with_reducible rfl)
          obtain ⟨dss, hd1, hd2⟩ := exs_in (g := (Value.slice A3 l0.length c3).ownBlock) hS0 (own_base HO.out) (H3.out.grew HG0.out)
          refine held_call 3 (by kernel_rfl) rfl (by rfl) (fun K hK => ?_)
          refine wp_apps (.tmp 48) (.tmp 50) 22 27 9 rfl W1 (.agg #[.int .i64 0, .string ⟨#[]⟩, .string ⟨#[]⟩, .int .i64 0, .int .i64 0, .int .i64 0, .int .i64 0, .string ⟨#[]⟩, .slice none 0 0]) 112 Try.underlying22 infoE rfl (by decide) (by decide) _ l0.length css.flatten rfl HO.out C rs.length c dss.flatten rfl hd1.flat hd2 (listR_one hd1) (by omega) hS0 ?_
          intro A8 c8 w8 ho8 _ hg8 hgb8 hor8
          have HX8 := ExG.app rfl rfl HCs.out hd1 ho8 hgb8 hor8
          refine hK.out _ _ hg8 ?_
          clear hK K
          obtain ⟨css8, hn8', hc8, hw8⟩ := HX8.openS
          have HN8 := Lib.hid hn8'
          clear hn8'
          obtain ⟨dss8, hd3, hd4⟩ := exs_in (g := (Value.slice A8 (l0.length + rs.length) c8).ownBlock) hg8 (own_base hw8) (H4.out.grew HG0.out)
          refine held_call 6 (by kernel_rfl) rfl (by rfl) (fun K hK => ?_)
          refine wp_apps (.tmp 51) (.tmp 53) 22 27 9 rfl W1 (.agg #[.int .i64 0, .string ⟨#[]⟩, .string ⟨#[]⟩, .int .i64 0, .int .i64 0, .int .i64 0, .int .i64 0, .string ⟨#[]⟩, .slice none 0 0]) 112 Try.underlying22 infoE rfl (by decide) (by decide) _ (l0.length + rs.length) css8.flatten rfl hw8 E wh.length e dss8.flatten rfl hd3.flat hd4 (listR_one hd3) (by omega) hg8 ?_
          intro A9 c9 w9 ho9 _ hg9 hgb9 hor9
          have HX9 := ExG.app HN8.out rfl hc8 hd3 ho9 hgb9 hor9
          refine hK.out _ _ hg9 ?_
          clear hK K
          refine held_take 7 (v := ?_) rfl (by kernel_rfl) (by kernel_rfl) (by kernel_rfl) (fun _ _ _ h => h) (by rfl) ?_ hg9 ?_
          rotate_left
          · (intro W hW; go_simp; with_reducible rfl)
          refine held_norm (a' := ?_) ?_ ?_
          rotate_left
          · (go_simp; with_reducible rfl)
          refine held_done (by kernel_rfl) ?_
          have HDn := Lib.hid (HG0.out.trans hg9)
          rw [HFin.out] at HX9
          have HX := Lib.hid HX9
          clear HN8 hc8 hw8 hd3 hd4 hg8 hgb8 hor8 ho8 HX8 hd1 hd2 hS0 ho9 hgb9 hor9 HX9 hg9 hg
          go_wp2
          go_ret
          obtain ⟨A', k', e', hx'⟩ := HX.out.exs
          injection e' with e1 e2 e3
          subst e1 e3
          exact ⟨A9, c9, by rw [← e2]; rfl, HDn.out, hx'⟩
end Go.Proofs.Ytchogpdfdpbpfaa

/- Layer 16: the classes of columns that are the same, by the program. Condition: edges that lie in memory that is there, no more than a thousand. -/
namespace Go.Proofs.Ytchogpdfdpbpfaa
open Go.RowKit
attribute [local go_sem] more_cell more_frozen more_more more_setCell more_of_drew more_of_drewN lt_more le_more past_cell past_cell2 past_frozen past_frozen2 past_setCell past_setCell2 mid_cell mid_frozen mid_setCell
attribute [local go_sem ↓] Go.wp_at_zero Go.wp_at_succ

theorem Blok.keepB {w w' : World} {g h b : Nat} {t : TypeId} {cs : Array Value} (hb : Blok w b t cs) (k : Keep2 w w' g h) (h1 : b ≠ g) (h2 : b ≠ h) : Blok w' b t cs := by
  have hl := hb.lt
  unfold Blok at *
  rw [k.block b hl h1 h2]
  exact hb
theorem UfS.up {u u' w : World} {g h n : Nat} {r : Nat → Nat} (s : UfS u' g h n r w) (k : Grew u u') : UfS u g h n r w :=
  ⟨k.trans s.grew, Nat.le_trans k.size s.gu, Nat.le_trans k.size s.hu, s.least, s.lies⟩
/-- Each column's class behind the edges. -/
def clsE (l : List Ed) : Nat → Nat := l.foldl (fun r e => joinI 128 r (columnI e.a e.ac) (columnI e.b e.bc)) id
theorem clsE_take (l : List Ed) (k : Nat) (h : k < l.length) : clsE (l.take (k + 1)) = joinI 128 (clsE (l.take k)) (columnI l[k].a l[k].ac) (columnI l[k].b l[k].bc) := by
  rw [List.take_succ_eq_append_getElem h]
  unfold clsE
  rw [List.foldl_append]
  rfl
def ClsAt (u : World) (g h : Nat) (l : List Ed) (i : Value) (wr : World) : Prop := ∃ q : Nat, q ≤ l.length ∧ i = .int .i64 q ∧ UfS u g h 128 (clsE (l.take q)) wr
def ClsF (w : World) (l : List Ed) (e : Ending) (w' : World) : Prop := ∃ g h, e = .returned (.pointer (some ⟨g, 0, none⟩)) ∧ UfS w g h 128 (clsE l) w'
set_option maxHeartbeats 4000000 in
set_option maxRecDepth 100000 in
theorem classes_any (core : Int) (l : List Ed) (A : Option Addr) (n k : Nat) (B : Option Addr) (j : Nat) (C : Option Addr) (p c : Nat) (D : Option Addr) (dn d : Nat) (E : Option Addr) (q e : Nat) (w : World)
    (h2 : EdsR (PRow w) B l) (he : l.length ≤ 1000) :
    Calls Try.prog 21 #[.agg (nqC core A n k B l.length j C p c D dn d E q e)] w (ClsF w l) := by
  have H2 := Lib.hid h2
  have HNew : Hid (∀ W, Calls Try.prog 50 #[.int .i64 128] W fun e w' => ∃ g h, e = .returned (.pointer (some ⟨g, 0, none⟩)) ∧ UfS W g h 128 id w' ∧ Grew W w') := Lib.hid fun W => uf_newB 128 (by omega) W
  clear h2
  unfold nqC
  go_enter Try.func21, Try.ntmps21
  go_upto_region 1 with fail
  have HB : Hid (Blok (w.alloc (.cells #[.int .i64 core, .slice A n k, .slice B l.length j, .slice C p c, .slice D dn d, .slice E q e] 44)) w.heap.size 44 #[.int .i64 core, .slice A n k, .slice B l.length j, .slice C p c, .slice D dn d, .slice E q e]) := Lib.hid (Blok.new _ _ _ _ rfl)
  have HG0 : Hid (Grew w (w.alloc (.cells #[.int .i64 core, .slice A n k, .slice B l.length j, .slice C p c, .slice D dn d, .slice E q e] 44))) := Lib.hid ((Grew.refl w).alloc _)
  generalize (w.alloc (.cells #[.int .i64 core, .slice A n k, .slice B l.length j, .slice C p c, .slice D dn d, .slice E q e] 44)) = W1 at *
  generalize w.heap.size = bq at *
  go_upto_region 2 with (go_at_call 50; (with_reducible refine (HNew.out _).mono ?_); rintro e2 w2 ⟨g, h, rfl, hs2, hg2⟩)
  have HS2 := Lib.hid hs2
  obtain ⟨xl, x0, x1, x2, x3, x4, x5⟩ := nm_in (HB.out.grew hg2)
  clear hs2 hg2 HNew
  go_upto_region 3 with fail
  clear xl x0 x1 x2 x3 x4 x5
  go_loopw [10] (fun i wr => ClsAt W1 g h l i wr) (fun i _ => l.length - (intOf i).toNat)
  case atStart => exact ⟨0, Nat.zero_le _, rfl, by rw [List.take_zero]; exact HS2.out⟩
  case round =>
    obtain ⟨i, hi, rfl, hs⟩ := hrel
    have HS := Lib.hid hs
    have hg := hs.grew
    have hgl := hs.lt
    clear hs
    by_cases hlt : i < l.length
    · have HT := Lib.hid (clsE_take l i hlt)
      obtain ⟨b, o, rfl, hb0, a0, a1, a2, a3⟩ := edsR_at ((H2.out.grew HG0.out).grew hg) hlt
      clear hg
      generalize l[i] = y at *
      generalize clsE (l.take i) = r at *
      go_upto_region 5 with fail
      have HBe : Hid (Blok (wr.alloc (.cells #[.int .i64 y.a, .int .i64 y.ac, .int .i64 y.b, .int .i64 y.bc] 34)) wr.heap.size 34 #[.int .i64 y.a, .int .i64 y.ac, .int .i64 y.b, .int .i64 y.bc]) := Lib.hid (Blok.new _ _ _ _ rfl)
      have HS4 : Hid (UfS W1 g h 128 r (wr.alloc (.cells #[.int .i64 y.a, .int .i64 y.ac, .int .i64 y.b, .int .i64 y.bc] 34))) := Lib.hid (HS.out.on ((Grew.refl wr).alloc _))
      clear hb0 a0 a1 a2 a3 HS
      generalize (wr.alloc (.cells #[.int .i64 y.a, .int .i64 y.ac, .int .i64 y.b, .int .i64 y.bc] 34)) = W4 at *
      generalize wr.heap.size = be at *
      have HC1 : Hid (∀ W, Gives Try.prog 25 #[.int .i64 y.a, .int .i64 y.ac] W (.int .i64 (columnI y.a y.ac))) := Lib.hid fun W => column_any _ _ W
      have HC2 : Hid (∀ W, Gives Try.prog 25 #[.int .i64 y.b, .int .i64 y.bc] W (.int .i64 (columnI y.b y.bc))) := Lib.hid fun W => column_any _ _ W
      have HJ : Hid (∀ W, UfS W1 g h 128 r W → Calls Try.prog 51 #[.pointer (some ⟨g, 0, none⟩), .int .i64 (columnI y.a y.ac), .int .i64 (columnI y.b y.bc)] W fun e w' => e = .returned (.bool (joinsB 128 r (columnI y.a y.ac) (columnI y.b y.bc))) ∧ UfS W1 g h 128 (joinI 128 r (columnI y.a y.ac) (columnI y.b y.bc)) w' ∧ Keep2 W w' g h) := Lib.hid fun W hW => uf_join _ _ _ W g h 128 r _ hW _ rfl rfl
      generalize joinsB 128 r (columnI y.a y.ac) (columnI y.b y.bc) = t at *
      generalize joinI 128 r (columnI y.a y.ac) (columnI y.b y.bc) = r' at *
      generalize columnI y.a y.ac = x1 at *
      generalize columnI y.b y.bc = x2 at *
      have hS0 := HBe.out.grew (Grew.refl W4).drew
      have hU0 := HS4.out.on (Grew.refl W4).drew
      refine wp_region_S (fun W => Blok W be 34 #[.int .i64 y.a, .int .i64 y.ac, .int .i64 y.b, .int .i64 y.bc]) (by kernel_rfl) ?_
      refine held_take 0 (v := ?_) rfl (by kernel_rfl) (by kernel_rfl) (by kernel_rfl) (fun _ _ _ h => h) (by rfl) ?_ hS0 ?_
      rotate_left
      · (intro W hW; obtain ⟨r0, d0, d1, d2, d3, _, _, _, _⟩ := ed_in hW; go_simp; with_reducible rfl)
      refine held_take 1 (v := ?_) rfl (by kernel_rfl) (by kernel_rfl) (by kernel_rfl) (fun _ _ _ h => h) (by rfl) ?_ hS0 ?_
      rotate_left
      · (intro W hW; obtain ⟨r0, d0, d1, d2, d3, _, _, _, _⟩ := ed_in hW; go_simp; with_reducible rfl)
      refine held_take 2 (v := ?_) rfl (by kernel_rfl) (by kernel_rfl) (by kernel_rfl) (fun _ _ _ h => h) (by rfl) ?_ hS0 ?_
      rotate_left
      · (intro W hW; obtain ⟨r0, d0, d1, d2, d3, _, _, _, _⟩ := ed_in hW; go_simp; with_reducible rfl)
      refine held_take 3 (v := ?_) rfl (by kernel_rfl) (by kernel_rfl) (by kernel_rfl) (fun _ _ _ h => h) (by rfl) ?_ hS0 ?_
      rotate_left
      · (intro W hW; obtain ⟨r0, d0, d1, d2, d3, _, _, _, _⟩ := ed_in hW; go_simp; with_reducible rfl)
      refine held_take 4 (v := ?_) rfl (by kernel_rfl) (by kernel_rfl) (by kernel_rfl) (fun _ _ _ h => h) (by rfl) ?_ hS0 ?_
      rotate_left
      · (intro W hW; obtain ⟨r0, d0, d1, d2, d3, _, _, _, _⟩ := ed_in hW; go_simp; with_reducible rfl)
      refine held_take 6 (v := ?_) rfl (by kernel_rfl) (by kernel_rfl) (by kernel_rfl) (fun _ _ _ h => h) (by rfl) ?_ hS0 ?_
      rotate_left
      · (intro W hW; obtain ⟨r0, d0, d1, d2, d3, _, _, _, _⟩ := ed_in hW; go_simp; with_reducible rfl)
      refine held_take 7 (v := ?_) rfl (by kernel_rfl) (by kernel_rfl) (by kernel_rfl) (fun _ _ _ h => h) (by rfl) ?_ hS0 ?_
      rotate_left
      · (intro W hW; obtain ⟨r0, d0, d1, d2, d3, _, _, _, _⟩ := ed_in hW; go_simp; with_reducible rfl)
      refine held_take 8 (v := ?_) rfl (by kernel_rfl) (by kernel_rfl) (by kernel_rfl) (fun _ _ _ h => h) (by rfl) ?_ hS0 ?_
      rotate_left
      · (intro W hW; obtain ⟨r0, d0, d1, d2, d3, _, _, _, _⟩ := ed_in hW; go_simp; with_reducible rfl)
      refine held_take 9 (v := ?_) rfl (by kernel_rfl) (by kernel_rfl) (by kernel_rfl) (fun _ _ _ h => h) (by rfl) ?_ hS0 ?_
      rotate_left
      · (intro W hW; obtain ⟨r0, d0, d1, d2, d3, _, _, _, _⟩ := ed_in hW; go_simp; with_reducible rfl)
      refine held_norm (a' := ?_) ?_ ?_
      rotate_left
      · (go_simp; with_reducible rfl)
      refine held_call 5 (by kernel_rfl) rfl (by rfl) (fun K hK => ?_)
      go_simp
      go_wp2_with ((go_at_call 25; (with_reducible refine (HC1.out _).grows.mono ?_); rintro e3 w3 ⟨rfl, hg3⟩; have hS3 := hS0.grew hg3))
      refine hK.out _ _ hS3 ?_
      clear hK K
      refine held_call 10 (by kernel_rfl) rfl (by rfl) (fun K hK => ?_)
      go_simp
      go_wp2_with ((go_at_call 25; (with_reducible refine (HC2.out _).grows.mono ?_); rintro e4 w4 ⟨rfl, hg4⟩; have hS4 := hS3.grew hg4; have hU4 := hU0.on (hg3.trans hg4)))
      refine hK.out _ _ hS4 ?_
      clear hK K
      refine held_call 11 (by kernel_rfl) rfl (by rfl) (fun K hK => ?_)
      go_simp
      go_wp2_with ((go_at_call 51; (with_reducible refine (HJ.out _ hU4).mono ?_); rintro e5 w5 ⟨rfl, hU5, hk5⟩; have hS5 := hS4.keepB hk5 (by omega) (by omega)))
      refine hK.out _ _ hS5 ?_
      clear hK K
      refine held_done (by kernel_rfl) ?_
      have HU5 := Lib.hid hU5
      clear hS5 hU5 hk5 hU4 hS4 hg4 hg3 hS3 hS0 hU0
      go_wp2
      exact ⟨⟨i + 1, by omega, by go_num, by rw [HT.out]; exact HU5.out⟩, by simp only [intOf]; omega⟩
    · obtain rfl : i = l.length := by omega
      rw [List.take_length] at HS
      clear hg
      go_wp2
      go_ret
      exact ⟨g, h, rfl, HS.out.up HG0.out⟩
end Go.Proofs.Ytchogpdfdpbpfaa

/- All conditions of a query, as they come in. No condition. -/
namespace Go.Proofs.Ytchogpdfdpbpfaa
open Go.RowKit Go.ChangeShapes Go.WideShapes Go.ChangeAt

structure Nq where
  core : Int
  scan : List (List Ex)
  edges : List Ed
  rest : List Ex
  lA : Option Addr
  ln : Nat
  lk : Nat
  wh : List Ex
def NqR (R : Rw) (x : Nq) (cs : List Value) : Prop := ∃ A k B j C c E e, cs = (nqC x.core A x.scan.length k B x.edges.length j C x.rest.length c x.lA x.ln x.lk E x.wh.length e).toList ∧ XllR R A x.scan ∧ EdsR R B x.edges ∧ ExsR R C x.rest ∧ ExsR R E x.wh
section
variable {H : Type} {enc : TypeId × Value → H} {W : World}
theorem rd_osl {P : Program} {t e : TypeId} (ht : P.underlying t = some (.slice e)) (hc : P.cellsOf t = 1) : Rd enc P W t 1 (fun (s : Option Addr × Nat × Nat) cs => cs = [.slice s.1 s.2.1 s.2.2]) :=
  ⟨hc, fun n cs y _ h => by
    rcases Go.Deep.open_slice ht h with ⟨hcs, _⟩ | ⟨a, len, cap, m, k, D, Pl, hcs, _⟩
    · exact ⟨⟨none, 0, 0⟩, hcs⟩
    · exact ⟨⟨some a, len, cap⟩, hcs⟩⟩
theorem rd_xl : Rd enc Try.prog W 22 1 (fun (l : List Ex) cs => XlR (PRow W) l cs) := rd_map rd_exs fun _ _ ⟨A, c, h1, h2⟩ => ⟨A, c, h1, h2⟩
theorem rd_ed : Rd enc Try.prog W 34 4 (fun (x : Ed) cs => EdR x cs) :=
  ⟨by kernel_rfl, fun n cs y hl h => by
    have ri : Rd enc Try.prog W 3 1 (fun (x : Int) cs => cs = [.int .i64 x] ∧ (Lit.int .i64 x).wf = true) := rd_int Try.underlying3 (by kernel_rfl)
    obtain ⟨a, h0, _⟩ := rd_part (i := 0) (o := 0) Try.underlying34 rfl rfl ri (by rw [hl]; decide) h
    obtain ⟨ac, h1, _⟩ := rd_part (i := 1) (o := 1) Try.underlying34 rfl rfl ri (by rw [hl]; decide) h
    obtain ⟨b, h2, _⟩ := rd_part (i := 2) (o := 2) Try.underlying34 rfl rfl ri (by rw [hl]; decide) h
    obtain ⟨bc, h3, _⟩ := rd_part (i := 3) (o := 3) Try.underlying34 rfl rfl ri (by rw [hl]; decide) h
    match cs, hl with
    | [e0, e1, e2, e3], _ =>
      simp at h0 h1 h2 h3
      subst h0 h1 h2 h3
      exact ⟨⟨a, ac, b, bc⟩, rfl⟩⟩
theorem rd_norm : Rd enc Try.prog W 44 6 (fun (x : Nq) cs => NqR (PRow W) x cs) :=
  ⟨by kernel_rfl, fun n cs y hl h => by
    have ri : Rd enc Try.prog W 3 1 (fun (x : Int) cs => cs = [.int .i64 x] ∧ (Lit.int .i64 x).wf = true) := rd_int Try.underlying3 (by kernel_rfl)
    obtain ⟨core, h0, _⟩ := rd_part (i := 0) (o := 0) Try.underlying44 rfl rfl ri (by rw [hl]; decide) h
    obtain ⟨sc, A, k, css, h1, _, r1, s1⟩ := rd_part (i := 1) (o := 1) Try.underlying44 rfl rfl (rd_slice Try.underlying40 (by kernel_rfl) (by decide) rd_xl) (by rw [hl]; decide) h
    obtain ⟨ed, B, j, dss, h2, _, r2, s2⟩ := rd_part (i := 2) (o := 2) Try.underlying44 rfl rfl (rd_slice Try.underlying41 (by kernel_rfl) (by decide) rd_ed) (by rw [hl]; decide) h
    obtain ⟨rs, C, c, h3, r3⟩ := rd_part (i := 3) (o := 3) Try.underlying44 rfl rfl rd_exs (by rw [hl]; decide) h
    obtain ⟨lt, h4⟩ := rd_part (i := 4) (o := 4) Try.underlying44 rfl rfl (rd_osl Try.underlying42 (by kernel_rfl)) (by rw [hl]; decide) h
    obtain ⟨wh, E, e, h5, r5⟩ := rd_part (i := 5) (o := 5) Try.underlying44 rfl rfl rd_exs (by rw [hl]; decide) h
    match cs, hl with
    | [e0, e1, e2, e3, e4, e5], _ =>
      simp at h0 h1 h2 h3 h4 h5
      subst h0 h1 h2 h3 h4 h5
      exact ⟨⟨core, sc, ed, rs, lt.1, lt.2.1, lt.2.2, wh⟩, A, k, B, j, C, c, E, e, rfl, ⟨css, r1, s1⟩, ⟨dss, r2, s2⟩, r3, r5⟩⟩
end
end Go.Proofs.Ytchogpdfdpbpfaa

/- Layer 16: the law NormClasses, walked. Condition: conditions that lie in memory that is there. -/
namespace Go.Proofs.Ytchogpdfdpbpfaa
open Go.RowKit
attribute [local go_sem] more_cell more_frozen more_more more_setCell more_of_drew more_of_drewN lt_more le_more past_cell past_cell2 past_frozen past_frozen2 past_setCell past_setCell2 mid_cell mid_frozen mid_setCell
attribute [local go_sem ↓] Go.wp_at_zero Go.wp_at_succ

theorem rjoin_any (a b : Int) (n c : Nat) (r : Nat → Nat) (A : Option Addr) (w : World) (hn : n ≤ 100000) (hr : Row w A (numsL n r)) :
    Calls Try.prog 23 #[.slice A n c, .int .i64 a, .int .i64 b] w (Nums w A n (joinI n r a b)) := by
  by_cases hi : inB n a b
  · have hi' := hi
    unfold inB at hi'
    have e1 : joinI n r a b = joinR r (r a.toNat) (r b.toNat) := if_pos hi
    obtain ⟨a', rfl⟩ := Int.eq_ofNat_of_zero_le hi'.1
    obtain ⟨b', rfl⟩ := Int.eq_ofNat_of_zero_le hi'.2.1
    rw [e1]
    rw [Int.toNat_natCast, Int.toNat_natCast]
    exact rjoin_yes A n c r a' b' _ _ w hr hn (by omega) (by omega) rfl rfl
  · have e1 : joinI n r a b = r := if_neg hi
    rw [e1]
    exact rjoin_no A n c r a b w hr (by unfold inB at hi; omega)
def zE : Ex := .mk 0 es es 0 0 0 0 es []
def fewX (l : List Ex) : Prop := l.length ≤ 20 ∧ ∀ x ∈ l, x.nodes ≤ 200
def NScanAt (u : World) (ll : List (List Ex)) (i : Value) (wr : World) : Prop := ∃ q : Nat, q ≤ ll.length ∧ i = .int .i64 q ∧ Grew u wr ∧ ∀ y ∈ ll.take q, fewX y
def NRefAt (u : World) (g h : Nat) (R : Nat → Nat) (l : List Ed) (v i : Value) (wr : World) : Prop :=
  ∃ (q : Nat) (A : Option Addr) (c : Nat), q ≤ l.length ∧ i = .int .i64 q ∧ v = .slice A 128 c ∧ UfS u g h 128 R wr ∧ Row wr A (numsL 128 (clsE (l.take q)))
theorem columnI_lt (t c : Int) : columnI t c = -1 ∨ (0 ≤ columnI t c ∧ columnI t c < 128) := by
  unfold columnI
  split
  · right; omega
  · left; rfl
theorem flat_few {ll : List (List Ex)} (h : ∀ y ∈ ll, fewX y) : ll.flatten.length ≤ ll.length * 20 ∧ ∀ x ∈ ll.flatten, x.nodes ≤ 200 := by
  induction ll with
  | nil => exact ⟨Nat.zero_le _, fun x hx => by cases hx⟩
  | cons y ll ih =>
    obtain ⟨h1, h2⟩ := ih fun z hz => h z (by simp [hz])
    obtain ⟨h3, h4⟩ := h y (by simp)
    refine ⟨by rw [List.flatten_cons, List.length_append, List.length_cons]; omega, fun x hx => ?_⟩
    rw [List.flatten_cons] at hx
    rcases List.mem_append.1 hx with hx | hx
    · exact h4 x hx
    · exact h2 x hx
theorem edX_nodes (e : Ed) : (edX e).nodes = 3 := by simp [edX, colX, Ex.nodes, nodesL]
set_option maxHeartbeats 16000000 in
set_option maxRecDepth 100000 in
theorem normClasses_walk (core : Int) (ll : List (List Ex)) (l : List Ed) (rs wh : List Ex) (A : Option Addr) (k : Nat) (B : Option Addr) (j : Nat) (C : Option Addr) (c : Nat) (D : Option Addr) (dn d : Nat) (E : Option Addr) (e : Nat) (t cc u dd : Int) (w : World)
    (h1 : XllR (PRow w) A ll) (h2 : EdsR (PRow w) B l) (h3 : ExsR (PRow w) C rs) (h4 : ExsR (PRow w) E wh) :
    Gives Try.prog 4 #[.agg (nqC core A ll.length k B l.length j C rs.length c D dn d E wh.length e), .int .i64 t, .int .i64 cc, .int .i64 u, .int .i64 dd] w (.bool true) := by
  have HMq : Hid (∀ W, Grew w W → Calls Try.prog 6 #[.agg #[.slice C rs.length c, .slice none 0 0, .int .i64 0, .string ⟨#[]⟩, .string ⟨#[]⟩, .int .i64 0, .int .i64 0, .int .i64 0, .int .i64 0, .string ⟨#[]⟩, .slice none 0 0, .slice E wh.length e]] W (MuchR W (goodQ ⟨rs, [], zE, wh⟩))) := Lib.hid fun W hW => muchq_any rs [] zE wh C c none 0 none 0 E e W (h3.grew hW) ⟨[], ListR.nil, Or.inl rfl⟩ (exs_nil _) (h4.grew hW)
  have HMs : Hid (∀ (y : List Ex) (Y : Option Addr) (ky : Nat) (W : World), ExsR (PRow W) Y y → Calls Try.prog 6 #[.agg #[.slice Y y.length ky, .slice none 0 0, .int .i64 0, .string ⟨#[]⟩, .string ⟨#[]⟩, .int .i64 0, .int .i64 0, .int .i64 0, .int .i64 0, .string ⟨#[]⟩, .slice none 0 0, .slice none 0 0]] W (MuchR W (goodQ ⟨y, [], zE, []⟩))) := Lib.hid fun y Y ky W hY => muchq_any y [] zE [] Y ky none 0 none 0 none 0 W hY ⟨[], ListR.nil, Or.inl rfl⟩ (exs_nil _) (exs_nil _)
  have HLv : Hid (∀ W, Gives Try.prog 8 #[] W (.bool true)) := Lib.hid live16_any
  have H1 := Lib.hid h1
  have H2 := Lib.hid h2
  have H3 := Lib.hid h3
  have H4 := Lib.hid h4
  clear h1 h2 h3 h4
  unfold Gives
  unfold nqC at *
  have cases1 : 40 < l.length ∨ (¬ 40 < l.length ∧ 20 < ll.length) ∨ (¬ 40 < l.length ∧ ¬ 20 < ll.length) := by omega
  rcases cases1 with hb1 | ⟨hb1, hb2⟩ | ⟨hb1, hb2⟩
  · have t1 : decide ((40 : Int) < (l.length : Int)) = true := decide_eq_true (by omega)
    go_enter Try.func4, Try.ntmps4
    go_wp2_with (go_at_call 8; (with_reducible refine (HLv.out _).grows.mono ?_); rintro e9 w9 ⟨rfl, hg9⟩; have HG9 := Lib.hid hg9; clear hg9)
    go_ret
    exact ⟨rfl, ((Grew.refl w).alloc _).trans HG9.out⟩
  · have t1 : decide ((40 : Int) < (l.length : Int)) = false := decide_eq_false (by omega)
    have t2 : decide ((20 : Int) < (ll.length : Int)) = true := decide_eq_true (by omega)
    go_enter Try.func4, Try.ntmps4
    go_wp2_with (go_at_call 8; (with_reducible refine (HLv.out _).grows.mono ?_); rintro e9 w9 ⟨rfl, hg9⟩; have HG9 := Lib.hid hg9; clear hg9)
    go_ret
    exact ⟨rfl, ((Grew.refl w).alloc _).trans HG9.out⟩
  · have t1 : decide ((40 : Int) < (l.length : Int)) = false := decide_eq_false (by omega)
    have t2 : decide ((20 : Int) < (ll.length : Int)) = false := decide_eq_false (by omega)
    go_enter Try.func4, Try.ntmps4
    go_upto_region 1 with fail
    have HB : Hid (Blok (w.alloc (.cells #[.int .i64 core, .slice A ll.length k, .slice B l.length j, .slice C rs.length c, .slice D dn d, .slice E wh.length e] 44)) w.heap.size 44 #[.int .i64 core, .slice A ll.length k, .slice B l.length j, .slice C rs.length c, .slice D dn d, .slice E wh.length e]) := Lib.hid (Blok.new _ _ _ _ rfl)
    have HG0 : Hid (Grew w (w.alloc (.cells #[.int .i64 core, .slice A ll.length k, .slice B l.length j, .slice C rs.length c, .slice D dn d, .slice E wh.length e] 44))) := Lib.hid ((Grew.refl w).alloc _)
    generalize (w.alloc (.cells #[.int .i64 core, .slice A ll.length k, .slice B l.length j, .slice C rs.length c, .slice D dn d, .slice E wh.length e] 44)) = W1 at *
    generalize w.heap.size = bq at *
    obtain ⟨xl, x0, x1, x2, x3, x4, x5⟩ := nm_in HB.out
    go_wp2_with fail
    refine (HMq.out _ HG0.out).mono ?_
    rintro e1 w1 ⟨m1, rfl, hg1, hq1⟩
    have HG1 := Lib.hid hg1
    clear hg1 xl x0 x1 x2 x3 x4 x5 HMq
    cases m1
    rotate_left
    · go_wp2_with (go_at_call 8; (with_reducible refine (HLv.out _).grows.mono ?_); rintro e9 w9 ⟨rfl, hg9⟩; have HG9 := Lib.hid hg9; clear hg9)
      go_ret
      exact ⟨rfl, (HG0.out.trans HG1.out).trans HG9.out⟩
    have hgq : goodQ ⟨rs, [], zE, wh⟩ := hq1 rfl
    have HFr : Hid (fewX rs) := Lib.hid ⟨hgq.items, hgq.item⟩
    have HFw : Hid (wh.length ≤ 12 ∧ ∀ x ∈ wh, x.nodes ≤ 200) := Lib.hid ⟨hgq.group, hgq.one⟩
    clear hgq hq1 t1 t2
    go_wp2_with fail
    go_loopw [11] (fun i wr => NScanAt W1 ll i wr) (fun i _ => ll.length - (intOf i).toNat)
    case atStart => exact ⟨0, Nat.zero_le _, rfl, HG1.out, fun y hy => by simp at hy⟩
    case round =>
      obtain ⟨q, hq, rfl, hg, hfw⟩ := hrel
      have HG := Lib.hid hg
      have HFx := Lib.hid hfw
      obtain ⟨xl, x0, x1, x2, x3, x4, x5⟩ := nm_in (HB.out.grew hg)
      clear hfw
      by_cases h : q < ll.length
      · obtain ⟨b, o, Y, ky, rfl, hb0, hc0, hy⟩ := xllR_at ((H1.out.grew HG0.out).grew hg) h
        have HM := Lib.hid (HMs.out ll[q] Y ky wr hy)
        have HN : Hid (fewX ll[q] → ∀ y ∈ ll.take (q + 1), fewX y) := Lib.hid (fun hf y hy => by
          rw [List.take_succ_eq_append_getElem h] at hy
          rcases List.mem_append.1 hy with hy | hy
          · exact HFx.out y hy
          · simp only [List.mem_singleton] at hy
            subst hy
            exact hf)
        clear hg hy
        generalize ll[q] = y at *
        go_wp2_with fail
        refine HM.out.mono ?_
        rintro e2 w2 ⟨m2, rfl, hg2, hq2⟩
        have HG2 := Lib.hid (HG.out.trans hg2)
        clear hg2 xl x0 x1 x2 x3 x4 x5 hb0 hc0 HM
        cases m2
        rotate_left
        · go_wp2_with (go_at_call 8; (with_reducible refine (HLv.out _).grows.mono ?_); rintro e9 w9 ⟨rfl, hg9⟩; have HG9 := Lib.hid hg9; clear hg9)
          go_ret
          exact ⟨rfl, (HG0.out.trans HG2.out).trans HG9.out⟩
        have hgq2 : goodQ ⟨y, [], zE, []⟩ := hq2 rfl
        have HFy : Hid (fewX y) := Lib.hid ⟨hgq2.items, hgq2.item⟩
        clear hgq2 hq2
        go_wp2
        exact ⟨⟨q + 1, by omega, by go_num, HG2.out, HN.out HFy.out⟩, by simp only [intOf]; omega⟩
      · obtain rfl : q = ll.length := by omega
        rw [List.take_length] at HFx
        have HFl := Lib.hid (flat_few HFx.out)
        clear HMs HFx
        have HCl : Hid (∀ W, Grew w W → Calls Try.prog 21 #[.agg #[.int .i64 core, .slice A ll.length k, .slice B l.length j, .slice C rs.length c, .slice D dn d, .slice E wh.length e]] W (ClsF W l)) := Lib.hid fun W hW => classes_any core l A ll.length k B j C rs.length c D dn d E wh.length e W (H2.out.grew hW) (by omega)
        have HRn : Hid (∀ W, Calls Try.prog 22 #[.int .i64 128] W (Nums W none 128 id)) := Lib.hid fun W => rnew_any 128 (by omega) W
        have hfl1 : ll.flatten.length ≤ 1000 := by have := HFl.out.1; omega
        have HAl : Hid (∀ W, Grew w W → Calls Try.prog 28 #[.agg #[.int .i64 core, .slice A ll.length k, .slice B l.length j, .slice C rs.length c, .slice D dn d, .slice E wh.length e]] W (ExsF' W (allE ll l rs wh))) := Lib.hid fun W hW => nall_any core ll l rs wh A k B j C c D dn d E e W (H1.out.grew hW) (H2.out.grew hW) (H3.out.grew hW) (H4.out.grew hW) hfl1 (by omega) (by omega) (by have := HFr.out.1; omega) (by have := HFw.out.1; omega)
        have HRa : Hid (∀ W, Grew w W → Calls Try.prog 29 #[.agg #[.int .i64 core, .slice A ll.length k, .slice B l.length j, .slice C rs.length c, .slice D dn d, .slice E wh.length e]] W (ExsF' W (allE ll l rs wh))) := Lib.hid fun W hW => rall16_any core ll l rs wh A k B j C c D dn d E e W (H1.out.grew hW) (H2.out.grew hW) (H3.out.grew hW) (H4.out.grew hW) hfl1 (by omega) (by omega) (by have := HFr.out.1; omega) (by have := HFw.out.1; omega)
        have HFe : Hid (fewE (allE ll l rs wh)) := Lib.hid (by
          obtain ⟨f1, f2⟩ := HFl.out
          obtain ⟨f3, f4⟩ := HFr.out
          obtain ⟨f5, f6⟩ := HFw.out
          refine ⟨by unfold allE; rw [List.length_append, List.length_append, List.length_append, List.length_map]; omega, fun x hx => ?_⟩
          unfold allE at hx
          rcases List.mem_append.1 hx with hx | hx
          · rcases List.mem_append.1 hx with hx | hx
            · rcases List.mem_append.1 hx with hx | hx
              · have := f2 x hx; omega
              · obtain ⟨y, _, rfl⟩ := List.mem_map.1 hx
                rw [edX_nodes]
                omega
            · have := f4 x hx; omega
          · have := f6 x hx; omega)
        clear hfl1 HFl HFr HFw
        generalize allE ll l rs wh = al at *
        go_upto_region 9 with (go_at_call 21; (with_reducible refine (HCl.out _ (HG0.out.trans HG.out)).mono ?_); rintro e3 w3 ⟨g, h, rfl, hs3⟩)
        have HS3 := Lib.hid (hs3.up HG.out)
        clear hs3 HCl xl x0 x1 x2 x3 x4 x5 hg
        have HOf0 : Hid (W1.heap.size ≤ g ∧ W1.heap.size ≤ h) := Lib.hid ⟨HS3.out.gu, HS3.out.hu⟩
        go_upto_region 10 with (go_at_call 22; (with_reducible refine (HRn.out _).mono ?_); rintro e4 w4 ⟨R0, c0, rfl, hg4, hr4, _⟩)
        have HS4 := Lib.hid (HS3.out.on hg4)
        have HR4 := Lib.hid hr4
        clear hg4 hr4 HRn HS3
        generalize hRf : clsE l = Rf at *
        have HRf := Lib.hid hRf
        clear hRf
        go_wp2_with fail
        go_loopw [13, 14] (fun v i wr => NRefAt W1 g h Rf l v i wr) (fun _ i _ => l.length - (intOf i).toNat)
        case atStart => exact ⟨0, R0, c0, Nat.zero_le _, rfl, rfl, HS4.out, by rw [List.take_zero]; exact HR4.out⟩
        case round =>
          obtain ⟨i, R1, c1, hi, rfl, rfl, hs, hr⟩ := hrel
          have HS := Lib.hid hs
          have HR := Lib.hid hr
          have hg := hs.grew
          obtain ⟨xl, x0, x1, x2, x3, x4, x5⟩ := nm_in (HB.out.grew hg)
          clear hs hr
          by_cases hlt : i < l.length
          · have HT := Lib.hid (clsE_take l i hlt)
            obtain ⟨b, o, rfl, hb0, a0, a1, a2, a3⟩ := edsR_at ((H2.out.grew HG0.out).grew hg) hlt
            clear hg
            generalize l[i] = y at *
            generalize clsE (l.take i) = r at *
            go_upto_region 14 with fail
            have HBe : Hid (Blok (wr.alloc (.cells #[.int .i64 y.a, .int .i64 y.ac, .int .i64 y.b, .int .i64 y.bc] 34)) wr.heap.size 34 #[.int .i64 y.a, .int .i64 y.ac, .int .i64 y.b, .int .i64 y.bc]) := Lib.hid (Blok.new _ _ _ _ rfl)
            have HSe : Hid (UfS W1 g h 128 Rf (wr.alloc (.cells #[.int .i64 y.a, .int .i64 y.ac, .int .i64 y.b, .int .i64 y.bc] 34))) := Lib.hid (HS.out.on ((Grew.refl wr).alloc _))
            have HRe : Hid (Row (wr.alloc (.cells #[.int .i64 y.a, .int .i64 y.ac, .int .i64 y.b, .int .i64 y.bc] 34)) R1 (numsL 128 r)) := Lib.hid (HR.out.grew ((Grew.refl wr).alloc _))
            clear hb0 a0 a1 a2 a3 HS HR xl x0 x1 x2 x3 x4 x5
            generalize (wr.alloc (.cells #[.int .i64 y.a, .int .i64 y.ac, .int .i64 y.b, .int .i64 y.bc] 34)) = W4 at *
            generalize wr.heap.size = be at *
            have HC1 : Hid (∀ W, Gives Try.prog 24 #[.int .i64 y.a, .int .i64 y.ac] W (.int .i64 (columnI y.a y.ac))) := Lib.hid fun W => rcolumn_any _ _ W
            have HC2 : Hid (∀ W, Gives Try.prog 24 #[.int .i64 y.b, .int .i64 y.bc] W (.int .i64 (columnI y.b y.bc))) := Lib.hid fun W => rcolumn_any _ _ W
            have HJ : Hid (∀ W, Row W R1 (numsL 128 r) → Calls Try.prog 23 #[.slice R1 128 c1, .int .i64 (columnI y.a y.ac), .int .i64 (columnI y.b y.bc)] W (Nums W R1 128 (joinI 128 r (columnI y.a y.ac) (columnI y.b y.bc)))) := Lib.hid fun W hW => rjoin_any _ _ 128 c1 r R1 W (by omega) hW
            generalize joinI 128 r (columnI y.a y.ac) (columnI y.b y.bc) = r' at *
            generalize columnI y.a y.ac = v1 at *
            generalize columnI y.b y.bc = v2 at *
            have hS0 : Grew W4 W4.drew := (Grew.refl W4).drew
            refine wp_region_S (fun W => Grew W4 W) (by kernel_rfl) ?_
            refine held_take 0 (v := ?_) rfl (by kernel_rfl) (by kernel_rfl) (by kernel_rfl) (fun _ _ _ h => h) (by rfl) ?_ hS0 ?_
            rotate_left
            · (intro W hW; obtain ⟨r0, d0, d1, d2, d3, _, _, _, _⟩ := ed_in (HBe.out.grew hW); go_simp; with_reducible rfl)
            refine held_take 1 (v := ?_) rfl (by kernel_rfl) (by kernel_rfl) (by kernel_rfl) (fun _ _ _ h => h) (by rfl) ?_ hS0 ?_
            rotate_left
            · (intro W hW; obtain ⟨r0, d0, d1, d2, d3, _, _, _, _⟩ := ed_in (HBe.out.grew hW); go_simp; with_reducible rfl)
            refine held_take 2 (v := ?_) rfl (by kernel_rfl) (by kernel_rfl) (by kernel_rfl) (fun _ _ _ h => h) (by rfl) ?_ hS0 ?_
            rotate_left
            · (intro W hW; obtain ⟨r0, d0, d1, d2, d3, _, _, _, _⟩ := ed_in (HBe.out.grew hW); go_simp; with_reducible rfl)
            refine held_take 3 (v := ?_) rfl (by kernel_rfl) (by kernel_rfl) (by kernel_rfl) (fun _ _ _ h => h) (by rfl) ?_ hS0 ?_
            rotate_left
            · (intro W hW; obtain ⟨r0, d0, d1, d2, d3, _, _, _, _⟩ := ed_in (HBe.out.grew hW); go_simp; with_reducible rfl)
            refine held_take 4 (v := ?_) rfl (by kernel_rfl) (by kernel_rfl) (by kernel_rfl) (fun _ _ _ h => h) (by rfl) ?_ hS0 ?_
            rotate_left
            · (intro W hW; obtain ⟨r0, d0, d1, d2, d3, _, _, _, _⟩ := ed_in (HBe.out.grew hW); go_simp; with_reducible rfl)
            refine held_take 6 (v := ?_) rfl (by kernel_rfl) (by kernel_rfl) (by kernel_rfl) (fun _ _ _ h => h) (by rfl) ?_ hS0 ?_
            rotate_left
            · (intro W hW; obtain ⟨r0, d0, d1, d2, d3, _, _, _, _⟩ := ed_in (HBe.out.grew hW); go_simp; with_reducible rfl)
            refine held_take 7 (v := ?_) rfl (by kernel_rfl) (by kernel_rfl) (by kernel_rfl) (fun _ _ _ h => h) (by rfl) ?_ hS0 ?_
            rotate_left
            · (intro W hW; obtain ⟨r0, d0, d1, d2, d3, _, _, _, _⟩ := ed_in (HBe.out.grew hW); go_simp; with_reducible rfl)
            refine held_take 8 (v := ?_) rfl (by kernel_rfl) (by kernel_rfl) (by kernel_rfl) (fun _ _ _ h => h) (by rfl) ?_ hS0 ?_
            rotate_left
            · (intro W hW; obtain ⟨r0, d0, d1, d2, d3, _, _, _, _⟩ := ed_in (HBe.out.grew hW); go_simp; with_reducible rfl)
            refine held_take 9 (v := ?_) rfl (by kernel_rfl) (by kernel_rfl) (by kernel_rfl) (fun _ _ _ h => h) (by rfl) ?_ hS0 ?_
            rotate_left
            · (intro W hW; obtain ⟨r0, d0, d1, d2, d3, _, _, _, _⟩ := ed_in (HBe.out.grew hW); go_simp; with_reducible rfl)
            refine held_norm (a' := ?_) ?_ ?_
            rotate_left
            · (go_simp; with_reducible rfl)
            refine held_call 5 (by kernel_rfl) rfl (by rfl) (fun K hK => ?_)
            go_simp
            go_wp2_with ((go_at_call 24; (with_reducible refine (HC1.out _).grows.mono ?_); rintro e5 w5 ⟨rfl, hg5⟩; have hS5 := hS0.trans hg5))
            refine hK.out _ _ hS5 ?_
            clear hK K
            refine held_call 10 (by kernel_rfl) rfl (by rfl) (fun K hK => ?_)
            go_simp
            go_wp2_with ((go_at_call 24; (with_reducible refine (HC2.out _).grows.mono ?_); rintro e6 w6 ⟨rfl, hg6⟩; have hS6 := hS5.trans hg6))
            refine hK.out _ _ hS6 ?_
            clear hK K
            refine held_call 11 (by kernel_rfl) rfl (by rfl) (fun K hK => ?_)
            go_simp
            go_wp2_with ((go_at_call 23; (with_reducible refine (HJ.out _ (HRe.out.grew hS6)).mono ?_); rintro e7 w7 ⟨R7, c7, rfl, hg7, hr7, _⟩; have hS7 := hS6.trans hg7))
            refine hK.out _ _ hS7 ?_
            clear hK K
            refine held_take 12 (v := ?_) rfl (by kernel_rfl) (by kernel_rfl) (by kernel_rfl) (fun _ _ _ h => h) (by rfl) ?_ hS7 ?_
            rotate_left
            · (intro W hW; go_simp; with_reducible rfl)
            refine held_norm (a' := ?_) ?_ ?_
            rotate_left
            · (go_simp; with_reducible rfl)
            refine held_done (by kernel_rfl) ?_
            have HS7 := Lib.hid (HSe.out.on hS7)
            have HR7 := Lib.hid hr7
            clear hS7 hr7 hg7 hS6 hg6 hS5 hg5 hS0
            go_wp2
            exact ⟨⟨i + 1, R7, c7, by omega, by go_num, rfl, HS7.out, by rw [HT.out]; exact HR7.out⟩, by simp only [intOf]; omega⟩
          · obtain rfl : i = l.length := by omega
            rw [List.take_length, HRf.out] at HR
            have HC1 : Hid (∀ W, Gives Try.prog 24 #[.int .i64 t, .int .i64 cc] W (.int .i64 (columnI t cc))) := Lib.hid fun W => rcolumn_any _ _ W
            have HC2 : Hid (∀ W, Gives Try.prog 24 #[.int .i64 u, .int .i64 dd] W (.int .i64 (columnI u dd))) := Lib.hid fun W => rcolumn_any _ _ W
            have HC3 : Hid (∀ W, Gives Try.prog 25 #[.int .i64 t, .int .i64 cc] W (.int .i64 (columnI t cc))) := Lib.hid fun W => column_any _ _ W
            have hv1 := columnI_lt t cc
            have hv2 := columnI_lt u dd
            generalize columnI t cc = v1 at *
            generalize columnI u dd = v2 at *
            go_upto_region 15 with fail
            clear xl x0 x1 x2 x3 x4 x5 hg
            go_upto_region 16 with (first | (go_at_call_of 24 (Value.int .i64 t); (with_reducible refine (HC1.out _).grows.mono ?_); rintro e5 w5 ⟨rfl, hg5⟩) | (go_at_call 24; (with_reducible refine (HC2.out _).grows.mono ?_); rintro e6 w6 ⟨rfl, hg6⟩))
            have HS6 := Lib.hid ((HS.out.on hg5).on hg6)
            have HR6 := Lib.hid ((HR.out.grew hg5).grew hg6)
            clear hg5 hg6 HS HR
            go_cut [18] (fun v wx => v = .bool (sameB 128 Rf v1 v2) ∧ UfS W1 g h 128 Rf wx)
            case first =>
              rcases hv1 with rfl | ⟨hv1, hv1'⟩
              · have t3 : decide ((0 : Int) ≤ -1) = false := by decide
                have HSb : Hid (sameB 128 Rf (-1) v2 = false) := Lib.hid (by unfold sameB findI; rw [if_neg (by omega)]; rfl)
                refine wp_region_more (by kernel_rfl) (by kernel_rfl) ?_
                repeat (go_big_quiet_step ((fail)))
                refine wpQuiet_nil ?_
                rintro _ ⟨z, rfl⟩
                go_wp2_with fail
                go_meet
                case rel => exact ⟨by rw [HSb.out], by first | exact HS6.out.drew.more _ | exact HS6.out.more _⟩
              · rcases hv2 with rfl | ⟨hv2, hv2'⟩
                · have t3 : decide ((0 : Int) ≤ v1) = true := decide_eq_true hv1
                  have t4 : decide ((0 : Int) ≤ -1) = false := by decide
                  have HSb : Hid (sameB 128 Rf v1 (-1) = false) := Lib.hid (by unfold sameB findI; rw [if_pos (by omega), if_neg (by omega), beq_eq_false_iff_ne.2 (by omega), Bool.and_false])
                  clear hv1'
                  refine wp_region_more (by kernel_rfl) (by kernel_rfl) ?_
                  repeat (go_big_quiet_step ((fail)))
                  refine wpQuiet_nil ?_
                  rintro _ ⟨z, rfl⟩
                  go_wp2_with fail
                  go_meet
                  case rel => exact ⟨by rw [HSb.out], by first | exact HS6.out.drew.more _ | exact HS6.out.more _⟩
                · obtain ⟨a, rfl⟩ := Int.eq_ofNat_of_zero_le hv1
                  obtain ⟨b, rfl⟩ := Int.eq_ofNat_of_zero_le hv2
                  have ha : a < 128 := by omega
                  have hb : b < 128 := by omega
                  obtain ⟨rb, ro, rfl, hrb, ca⟩ := HR6.out.nums ha
                  have hcb := (nums_same HR6.out hb).2
                  have t3 : decide ((0 : Int) ≤ (a : Int)) = true := decide_eq_true hv1
                  have t4 : decide ((0 : Int) ≤ (b : Int)) = true := decide_eq_true hv2
                  have hla : (a : Int) < 128 := by omega
                  have hlb : (b : Int) < 128 := by omega
                  have HSb : Hid (sameB 128 Rf a b = ((Rf a : Int) == (Rf b : Int))) := Lib.hid (by unfold sameB findI; rw [if_pos (by omega), if_pos (by omega), Int.toNat_natCast, Int.toNat_natCast, decide_eq_true (by omega), Bool.true_and])
                  clear hv1' hv2'
                  generalize Rf a = pa at *
                  generalize Rf b = pb at *
                  refine wp_region_more (by kernel_rfl) (by kernel_rfl) ?_
                  repeat (go_big_quiet_step ((fail)))
                  refine wpQuiet_nil ?_
                  rintro _ ⟨z, rfl⟩
                  go_wp2_with fail
                  go_meet
                  case rel => exact ⟨by rw [HSb.out], by first | exact HS6.out.drew.more _ | exact HS6.out.more _⟩
            case rest =>
              obtain ⟨rfl, hs7⟩ := hcut
              have HS7 := Lib.hid hs7
              clear hs7
              go_upto_region 17 with fail
              have hs7 := HS7.out
              clear HS7
              have HSm : Hid (∀ W, UfS W1 g h 128 Rf W → Calls Try.prog 26 #[.pointer (some ⟨g, 0, none⟩), .int .i64 v1, .int .i64 v2] W fun e w' => e = .returned (.bool (sameB 128 Rf v1 v2)) ∧ UfS W1 g h 128 Rf w' ∧ Keep2 W w' g h) := Lib.hid fun W hW => uf_same v1 v2 W1 W g h 128 Rf hW _ rfl
              have HLn : Hid (∀ W, UfS W1 g h 128 Rf W → Calls Try.prog 27 #[.pointer (some ⟨g, 0, none⟩)] W fun e w' => e = .returned (.int .i64 128) ∧ w' = W) := Lib.hid fun W hW => uf_len W1 W g h 128 Rf hW
              have hbq := HB.out.lt
              have hbg : bq ≠ g := by have := HOf0.out.1; omega
              have hbh : bq ≠ h := by have := HOf0.out.2; omega
              generalize sameB 128 Rf v1 v2 = tb at *
              have hU0 := hs7.drew
              have hS0 := HB.out.grew hU0.grew
              clear hs7
              have up : ∀ {W W'}, Blok W bq 44 #[.int .i64 core, .slice A ll.length k, .slice B l.length j, .slice C rs.length c, .slice D dn d, .slice E wh.length e] → Grew W W' → Blok W' bq 44 #[.int .i64 core, .slice A ll.length k, .slice B l.length j, .slice C rs.length c, .slice D dn d, .slice E wh.length e] := fun h g => h.grew g
              refine wp_region_S (fun W => Blok W bq 44 #[.int .i64 core, .slice A ll.length k, .slice B l.length j, .slice C rs.length c, .slice D dn d, .slice E wh.length e]) (by kernel_rfl) ?_
              refine held_take 0 (v := ?_) rfl (by kernel_rfl) (by kernel_rfl) (by kernel_rfl) (fun _ _ _ h => h) (by rfl) ?_ hS0 ?_
              rotate_left
              · (intro W hW; go_simp; with_reducible rfl)
              refine held_take 1 (v := ?_) rfl (by kernel_rfl) (by kernel_rfl) (by kernel_rfl) (fun _ _ _ h => h) (by rfl) ?_ hS0 ?_
              rotate_left
              · (intro W hW; go_simp; with_reducible rfl)
              refine held_take 3 (v := ?_) rfl (by kernel_rfl) (by kernel_rfl) (by kernel_rfl) (fun _ _ _ h => h) (by rfl) ?_ hS0 ?_
              rotate_left
              · (intro W hW; go_simp; with_reducible rfl)
              refine held_norm (a' := ?_) ?_ ?_
              rotate_left
              · (go_simp; with_reducible rfl)
              refine held_call 2 (by kernel_rfl) rfl (by rfl) (fun K hK => ?_)
              go_simp
              go_wp2_with ((go_at_call 25; (with_reducible refine (HC3.out _).grows.mono ?_); rintro e1 z1 ⟨rfl, hg1⟩; have hS1 := up hS0 hg1; have hU1 := hU0.on hg1))
              refine hK.out _ _ hS1 ?_
              clear hK K
              refine held_take 4 (v := ?_) rfl (by kernel_rfl) (by kernel_rfl) (by kernel_rfl) (fun _ _ _ h => h) (by rfl) ?_ hS1 ?_
              rotate_left
              · (intro W hW; go_simp; with_reducible rfl)
              refine held_take 5 (v := ?_) rfl (by kernel_rfl) (by kernel_rfl) (by kernel_rfl) (fun _ _ _ h => h) (by rfl) ?_ hS1 ?_
              rotate_left
              · (intro W hW; go_simp; with_reducible rfl)
              refine held_take 6 (v := ?_) rfl (by kernel_rfl) (by kernel_rfl) (by kernel_rfl) (fun _ _ _ h => h) (by rfl) ?_ hS1 ?_
              rotate_left
              · (intro W hW; go_simp; with_reducible rfl)
              refine held_take 7 (v := ?_) rfl (by kernel_rfl) (by kernel_rfl) (by kernel_rfl) (fun _ _ _ h => h) (by rfl) ?_ hS1 ?_
              rotate_left
              · (intro W hW; go_simp; with_reducible rfl)
              refine held_norm (a' := ?_) ?_ ?_
              rotate_left
              · (go_simp; with_reducible rfl)
              refine held_take 8 (v := ?_) rfl (by kernel_rfl) (by kernel_rfl) (by kernel_rfl) (fun _ _ _ h => h) (by rfl) ?_ hS1 ?_
              rotate_left
              · (intro W hW; go_simp; with_reducible rfl)
              refine held_take 10 (v := ?_) rfl (by kernel_rfl) (by kernel_rfl) (by kernel_rfl) (fun _ _ _ h => h) (by rfl) ?_ hS1 ?_
              rotate_left
              · (intro W hW; go_simp; with_reducible rfl)
              refine held_norm (a' := ?_) ?_ ?_
              rotate_left
              · (go_simp; with_reducible rfl)
              refine held_call 9 (by kernel_rfl) rfl (by rfl) (fun K hK => ?_)
              go_simp
              go_wp2_with ((go_at_call 26; (with_reducible refine (HSm.out _ hU1).mono ?_); rintro e2 z2 ⟨rfl, hU2, hk2⟩; have hS2 := hS1.keepB hk2 hbg hbh))
              refine hK.out _ _ hS2 ?_
              clear hK K
              refine held_take 11 (v := ?_) rfl (by kernel_rfl) (by kernel_rfl) (by kernel_rfl) (fun _ _ _ h => h) (by rfl) ?_ hS2 ?_
              rotate_left
              · (intro W hW; go_simp; with_reducible rfl)
              refine held_take 12 (v := ?_) rfl (by kernel_rfl) (by kernel_rfl) (by kernel_rfl) (fun _ _ _ h => h) (by rfl) ?_ hS2 ?_
              rotate_left
              · (intro W hW; go_simp; with_reducible rfl)
              refine held_take 13 (v := ?_) rfl (by kernel_rfl) (by kernel_rfl) (by kernel_rfl) (fun _ _ _ h => h) (by rfl) ?_ hS2 ?_
              rotate_left
              · (intro W hW; go_simp; with_reducible rfl)
              refine held_take 14 (v := ?_) rfl (by kernel_rfl) (by kernel_rfl) (by kernel_rfl) (fun _ _ _ h => h) (by rfl) ?_ hS2 ?_
              rotate_left
              · (intro W hW; go_simp; with_reducible rfl)
              refine held_norm (a' := ?_) ?_ ?_
              rotate_left
              · (go_simp; with_reducible rfl)
              refine held_call 15 (by kernel_rfl) rfl (by rfl) (fun K hK => ?_)
              go_simp
              go_wp2_with ((go_at_call 27; (with_reducible refine (HLn.out _ hU2).mono ?_); rintro e3 z3 ⟨rfl, rfl⟩))
              refine hK.out _ _ hS2 ?_
              clear hK K
              refine held_take 16 (v := ?_) rfl (by kernel_rfl) (by kernel_rfl) (by kernel_rfl) (fun _ _ _ h => h) (by rfl) ?_ hS2 ?_
              rotate_left
              · (intro W hW; go_simp; with_reducible rfl)
              refine held_take 17 (v := ?_) rfl (by kernel_rfl) (by kernel_rfl) (by kernel_rfl) (fun _ _ _ h => h) (by rfl) ?_ hS2 ?_
              rotate_left
              · (intro W hW; go_simp; with_reducible rfl)
              refine held_take 18 (v := ?_) rfl (by kernel_rfl) (by kernel_rfl) (by kernel_rfl) (fun _ _ _ h => h) (by rfl) ?_ hS2 ?_
              rotate_left
              · (intro W hW; go_simp; with_reducible rfl)
              refine held_norm (a' := ?_) ?_ ?_
              rotate_left
              · (go_simp; with_reducible rfl)
              refine held_take 19 (v := ?_) rfl (by kernel_rfl) (by kernel_rfl) (by kernel_rfl) (fun _ _ _ h => h) (by rfl) ?_ hS2 ?_
              rotate_left
              · (intro W hW; obtain ⟨xl, x0, x1, x2, x3, x4, x5⟩ := nm_in hW; go_simp; with_reducible rfl)
              refine held_take 21 (v := ?_) rfl (by kernel_rfl) (by kernel_rfl) (by kernel_rfl) (fun _ _ _ h => h) (by rfl) ?_ hS2 ?_
              rotate_left
              · (intro W hW; obtain ⟨xl, x0, x1, x2, x3, x4, x5⟩ := nm_in hW; go_simp; with_reducible rfl)
              refine held_norm (a' := ?_) ?_ ?_
              rotate_left
              · (go_simp; with_reducible rfl)
              refine held_call 20 (by kernel_rfl) rfl (by rfl) (fun K hK => ?_)
              go_simp
              go_wp2_with ((go_at_call 28; (with_reducible refine (HAl.out _ (HG0.out.trans hU2.grew)).mono ?_); rintro e4 z4 ⟨A4, k4, rfl, hg4, hx4⟩; have hS4 := up hS2 hg4; have hU4 := hU2.grew.trans hg4))
              refine hK.out _ _ hS4 ?_
              clear hK K
              refine held_call 22 (by kernel_rfl) rfl (by rfl) (fun K hK => ?_)
              go_simp
              go_wp2_with ((go_at_call 29; (with_reducible refine (HRa.out _ (HG0.out.trans hU4)).mono ?_); rintro e5 z5 ⟨A5, k5, rfl, hg5, hx5⟩; have hS5 := up hS4 hg5; have hU5 := hU4.trans hg5))
              refine hK.out _ _ hS5 ?_
              clear hK K
              refine held_call 23 (by kernel_rfl) rfl (by rfl) (fun K hK => ?_)
              go_simp
              go_wp2_with ((go_at_call 18; refine (rall_same HFe.out (hx4.grew hg5) hx5).grows.mono ?_; rintro e6 z6 ⟨rfl, hg6⟩; have hS6 := up hS5 hg6; have hU6 := hU5.trans hg6))
              refine hK.out _ _ hS6 ?_
              clear hK K
              refine held_take 24 (v := ?_) rfl (by kernel_rfl) (by kernel_rfl) (by kernel_rfl) (fun _ _ _ h => h) (by rfl) ?_ hS6 ?_
              rotate_left
              · (intro W hW; go_simp; with_reducible rfl)
              refine held_take 25 (v := ?_) rfl (by kernel_rfl) (by kernel_rfl) (by kernel_rfl) (fun _ _ _ h => h) (by rfl) ?_ hS6 ?_
              rotate_left
              · (intro W hW; go_simp; with_reducible rfl)
              refine held_norm (a' := ?_) ?_ ?_
              rotate_left
              · (go_simp; with_reducible rfl)
              refine held_call 26 (by kernel_rfl) rfl (by rfl) (fun K hK => ?_)
              go_simp
              go_wp2_with ((go_at_call 8; (with_reducible refine (HLv.out _).grows.mono ?_); rintro e7 z7 ⟨rfl, hg7⟩; have hS7 := up hS6 hg7; have hU7 := hU6.trans hg7))
              refine hK.out _ _ hS7 ?_
              clear hK K
              refine held_take 27 (v := ?_) rfl (by kernel_rfl) (by kernel_rfl) (by kernel_rfl) (fun _ _ _ h => h) (by rfl) ?_ hS7 ?_
              rotate_left
              · (intro W hW; go_simp; with_reducible rfl)
              refine held_take 28 (v := ?_) rfl (by kernel_rfl) (by kernel_rfl) (by kernel_rfl) (fun _ _ _ h => h) (by rfl) ?_ hS7 ?_
              rotate_left
              · (intro W hW; go_simp; with_reducible rfl)
              refine held_norm (a' := ?_) ?_ ?_
              rotate_left
              · (go_simp; with_reducible rfl)
              refine held_done (by kernel_rfl) ?_
              have HDn := Lib.hid (HG0.out.trans hU7)
              clear hS7 hS6 hS5 hS4 hS2 hS1 hS0 up hU7 hU6 hU5 hU4 hU2 hU1 hU0 hx4 hx5 hg1 hg4 hg5 hg6 hg7 hk2
              go_wp2
              go_ret
              exact ⟨rfl, HDn.out⟩
end Go.Proofs.Ytchogpdfdpbpfaa

namespace Go.Proofs.Ytchogpdfdpbpfaa.normClasses
open Go.RowKit Go.ChangeShapes Go.WideShapes Go.ChangeAt Go.Joins

theorem reads : ∀ t ∈ Try.f4.params.toList, Try.prog.readableRec t = true ∧ t < Try.prog.types.size := by
  rw [Try.params4]
  intro t ht
  simp only [List.mem_cons, List.not_mem_nil, or_false] at ht
  rcases ht with rfl | rfl | rfl | rfl | rfl
  all_goals exact ⟨by kernel_rfl, of_decide_eq_true (by kernel_rfl)⟩

set_option maxRecDepth 100000 in
theorem lifted (os : Os) (started : os.Started) (H : Type) (enc : TypeId × Value → H) :
    ReturnsInHanded {} Try.checked os 4 .any (Rows.normClassesSpec.pre6 enc Try.prog Try.f4 Rows.normClassesRow.domain false) (Rows.normClassesSpec.post enc Try.prog Try.f4 false true false false) := by
  refine returnsInHanded_of_change (C := Try.checked) own started (by kernel_rfl) Try.func4
    (ChangeSpec.witness6 (enc := enc) (C := Try.checked) false ⟨#[], #[.agg #[.int .i64 0, .slice none 0 0, .slice none 0 0, .slice none 0 0, .slice none 0 0, .slice none 0 0], .int .i64 0, .int .i64 0, .int .i64 0, .int .i64 0], []⟩ 8 (by kernel_rfl) (by kernel_rfl) (by kernel_rfl) (by kernel_rfl)) ?_
  intro W base args ds gs before hval0 hW hcnd _
  have hval : ∀ (j : Nat) t v, Try.f4.params[j]? = some t → args[j]? = some v → Value.okWide Try.prog W .any base t v := hval0
  have hW' := hW
  obtain ⟨p, q, hA0, hV, hpq, hfz, hnd⟩ := hW
  have hA : DataW.TrodAll enc Try.prog W 0 (fun _ => true) true Try.f4.params.toList args.toList ds p := hA0
  rw [Try.params4] at hA hval
  obtain ⟨v0, vs0, d0, ds0, p0, q0, hargs, rfl, rfl, h0, r0⟩ := trodAll_cons hA
  obtain ⟨v1, vs1, d1, ds1, p1, q1, rfl, rfl, rfl, h1, r1⟩ := trodAll_cons r0
  obtain ⟨v2, vs2, d2, ds2, p2, q2, rfl, rfl, rfl, h2, r2⟩ := trodAll_cons r1
  obtain ⟨v3, vs3, d3, ds3, p3, q3, rfl, rfl, rfl, h3, r3⟩ := trodAll_cons r2
  obtain ⟨v4, vs4, d4, ds4, p4, q4, rfl, rfl, rfl, h4, r4⟩ := trodAll_cons r3
  obtain ⟨rfl, rfl, rfl⟩ := trodAll_nil r4
  obtain rfl : args = #[v0, v1, v2, v3, v4] := by cases args; simp_all
  obtain ⟨rfl, rfl⟩ := trodVars_none hV
  obtain ⟨ncs, n, rfl, zn, nA, nk, nB, nj, nC, nc, nE, ne, en, rn1, rn2, rn3, rn4⟩ := rd_arg Try.underlying44 rd_norm (hval 0 44 v0 rfl rfl) h0
  obtain rfl : ncs = nqC n.core nA n.scan.length nk nB n.edges.length nj nC n.rest.length nc n.lA n.ln n.lk nE n.wh.length ne := Array.ext' (by rw [en])
  obtain ⟨t, rfl, rfl, rfl, wt⟩ := open_int Try.underlying3 (hval 1 3 v1 rfl rfl) h1
  obtain ⟨c, rfl, rfl, rfl, wc⟩ := open_int Try.underlying3 (hval 2 3 v2 rfl rfl) h2
  obtain ⟨u, rfl, rfl, rfl, wu⟩ := open_int Try.underlying3 (hval 3 3 v3 rfl rfl) h3
  obtain ⟨d, rfl, rfl, rfl, wd⟩ := open_int Try.underlying3 (hval 4 3 v4 rfl rfl) h4
  refine (normClasses_walk n.core n.scan n.edges n.rest n.wh nA nk nB nj nC nc n.lA n.ln n.lk nE ne t c u d W rn1 rn2 rn3 rn4).mono fun e W' ⟨he, hg⟩ => ?_
  subst he
  exact ⟨_, rfl, law_post hW' rfl rfl Try.underlying4 rfl rfl rfl laid_out reads (Grew.below hg)⟩

theorem over : Rows.normClassesRow.holds Try.pinned (OpenSpec.ofChange Rows.normClassesSpec) :=
  OpenClaim.holds_of_wide 4 Try.f4 rfl rfl rfl rfl rfl rfl rfl ⟨rfl, rfl, rfl, rfl, rfl⟩ rfl rfl rfl rfl rfl (by kernel_rfl) Try.func4 (by kernel_rfl)
    (of_decide_eq_true (by kernel_rfl)) (by unfold Func.isWrapper; first | (rw [if_pos (by decide +kernel)]; kernel_rfl) | (rw [if_neg (by decide +kernel)]; exact ⟨rfl, rfl⟩))
    (fun os started H enc _ => lifted os started H enc)

theorem proved : Rows.NormClassesSaid := over

end Go.Proofs.Ytchogpdfdpbpfaa.normClasses
