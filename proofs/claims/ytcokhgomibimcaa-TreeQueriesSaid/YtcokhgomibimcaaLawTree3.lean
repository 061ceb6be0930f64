/- Layer 8: the law of queries that are the same. Condition: queries that lie in memory that is there. -/
import Derived.Test.YtcokhgomibimcaaQuery6
namespace Go.Proofs.Ytcokhgomibimcaa
open Go.RowKit
attribute [local go_sem] more_cell more_frozen more_more more_setCell more_of_drew more_of_drewN lt_more le_more past_cell past_cell2 past_frozen past_frozen2 past_setCell past_setCell2 mid_cell mid_frozen mid_setCell
attribute [local go_sem ↓] Go.wp_at_zero Go.wp_at_succ
theorem nodesL_le {n : Nat} : ∀ l : List Ex, (∀ x ∈ l, x.nodes ≤ n) → nodesL l ≤ n * l.length
  | [], _ => by simp [nodesL]
  | x :: l, h => by
    have h1 := h x (by simp)
    have h2 := nodesL_le l (fun y hy => h y (by simp [hy]))
    simp only [nodesL, List.length_cons, Nat.mul_add]
    omega
theorem boxV {w : World} {g : Nat} {v0 v1 v2 : Value} (h : Blok w g 51 #[v0, v1, v2]) : g < w.heap.size ∧ w.cell? ⟨g, 0, none⟩ = some v0 ∧ w.cell? ⟨g, 1, none⟩ = some v1 ∧ w.cell? ⟨g, 2, none⟩ = some v2 := ⟨h.lt, h.cell 0, h.cell 1, h.cell 2⟩
set_option maxHeartbeats 8000000 in
set_option maxRecDepth 100000 in
theorem treeQueries_walk (it it' : List Ex) (sr sr' : List Fr) (wh wh' : Ex) (gr gr' : List Ex) (A A' : Option Addr) (k k' : Nat) (B B' : Option Addr) (j j' : Nat) (C C' : Option Addr) (c c' : Nat) (D D' : Option Addr) (d d' : Nat)
    (tab name : ByteArray) (vk vi : Int) (vs : ByteArray) (op : Int) (w : World)
    (rA : ExsR (PRow w) A it) (rB : FrsR (PRow w) B sr) (rC : ExsR (PRow w) C wh.l) (rD : ExsR (PRow w) D gr)
    (rA' : ExsR (PRow w) A' it') (rB' : FrsR (PRow w) B' sr') (rC' : ExsR (PRow w) C' wh'.l) (rD' : ExsR (PRow w) D' gr') :
    Gives Try.prog 8 #[.agg (qyC it sr wh gr A k B j C c D d), .agg (qyC it' sr' wh' gr' A' k' B' j' C' c' D' d'), .string tab, .string name, .agg #[.int .i64 vk, .int .i64 vi, .string vs], .int .i64 op] w (.bool true) := by
  obtain ⟨t, ht⟩ := some_bool (it = it' ∧ gr = gr' ∧ wh = wh' ∧ sr = sr')
  have HMa : Hid (∀ W, Grew w W → Calls Try.prog 47 #[.agg (qyC it sr wh gr A k B j C c D d)] W (MuchR W (goodQ ⟨it, sr, wh, gr⟩))) := Lib.hid fun W hW => muchq_any it sr wh gr A k B j C c D d W (rA.grew hW) (rB.grew hW) (rC.grew hW) (rD.grew hW)
  have HMb : Hid (∀ W, Grew w W → Calls Try.prog 47 #[.agg (qyC it' sr' wh' gr' A' k' B' j' C' c' D' d')] W (MuchR W (goodQ ⟨it', sr', wh', gr'⟩))) := Lib.hid fun W hW => muchq_any it' sr' wh' gr' A' k' B' j' C' c' D' d' W (rA'.grew hW) (rB'.grew hW) (rC'.grew hW) (rD'.grew hW)
  have HCol : Hid (∀ W, Gives Try.prog 48 #[.string tab, .string name] W (.agg #[.int .i64 15, .string tab, .string name, .int .i64 0, .int .i64 0, .int .i64 0, .int .i64 0, .string ⟨#[]⟩, .slice none 0 0])) := Lib.hid fun W => col_ex tab name W
  have HVal : Hid (∀ W, Gives Try.prog 49 #[.agg #[.int .i64 vk, .int .i64 vi, .string vs]] W (.agg #[.int .i64 16, .string ⟨#[]⟩, .string ⟨#[]⟩, .int .i64 0, .int .i64 0, .int .i64 vk, .int .i64 vi, .string vs, .slice none 0 0])) := Lib.hid fun W => val_ex vk vi vs W
  have HRS1 : Hid (∀ W, Gives Try.prog 46 #[.agg #[.int .i64 15, .string tab, .string name, .int .i64 0, .int .i64 0, .int .i64 0, .int .i64 0, .string ⟨#[]⟩, .slice none 0 0], .agg #[.int .i64 15, .string tab, .string name, .int .i64 0, .int .i64 0, .int .i64 0, .int .i64 0, .string ⟨#[]⟩, .slice none 0 0]] W (.bool true)) := Lib.hid fun W => rsame_ex 1000000 (Nat.le_refl _) (.mk 15 tab name 0 0 0 0 es []) (.mk 15 tab name 0 0 0 0 es []) (by simp [Ex.nodes, nodesL]) none none 0 0 true (by simp) W (exs_nil W) (exs_nil W)
  have HRS2 : Hid (∀ W, Gives Try.prog 46 #[.agg #[.int .i64 16, .string ⟨#[]⟩, .string ⟨#[]⟩, .int .i64 0, .int .i64 0, .int .i64 vk, .int .i64 vi, .string vs, .slice none 0 0], .agg #[.int .i64 16, .string ⟨#[]⟩, .string ⟨#[]⟩, .int .i64 0, .int .i64 0, .int .i64 vk, .int .i64 vi, .string vs, .slice none 0 0]] W (.bool true)) := Lib.hid fun W => rsame_ex 1000000 (Nat.le_refl _) (.mk 16 es es 0 0 vk vi vs []) (.mk 16 es es 0 0 vk vi vs []) (by simp [Ex.nodes, nodesL]) none none 0 0 true (by simp) W (exs_nil W) (exs_nil W)
  have HOf0 : Hid (goodQ ⟨it, sr, wh, gr⟩ → ∀ W, Grew w W → Calls Try.prog 50 #[.int .i64 op, .slice A it.length k] W (fun e w' => ∃ A9 k9, e = .returned (.agg #[.int .i64 op, .string ⟨#[]⟩, .string ⟨#[]⟩, .int .i64 0, .int .i64 0, .int .i64 0, .int .i64 0, .string ⟨#[]⟩, .slice A9 it.length k9]) ∧ Grew W w' ∧ ExsR (PRow w') A9 it)) := Lib.hid fun h W hW => of_ex op it A k (by have := h.items; simp only at this; omega) W (rA.grew hW)
  have HRS30 : Hid (goodQ ⟨it, sr, wh, gr⟩ → ∀ W A9 k9, Grew w W → ExsR (PRow W) A9 it → Gives Try.prog 46 #[.agg #[.int .i64 op, .string ⟨#[]⟩, .string ⟨#[]⟩, .int .i64 0, .int .i64 0, .int .i64 0, .int .i64 0, .string ⟨#[]⟩, .slice A9 it.length k9], .agg #[.int .i64 op, .string ⟨#[]⟩, .string ⟨#[]⟩, .int .i64 0, .int .i64 0, .int .i64 0, .int .i64 0, .string ⟨#[]⟩, .slice A it.length k]] W (.bool true)) := Lib.hid fun h W A9 k9 hW hx => rsame_ex 1000000 (Nat.le_refl _) (.mk op es es 0 0 0 0 es it) (.mk op es es 0 0 0 0 es it) (by
    have h1 := h.items
    have h2 := nodesL_le it h.item
    simp only at h1
    simp only [Ex.nodes]
    omega) A9 A k9 k true (by simp) W hx (rA.grew hW)
  have HSQ0 : Hid (goodQ ⟨it, sr, wh, gr⟩ → ∀ W, Grew w W → Gives Try.prog 51 #[.agg (qyC it sr wh gr A k B j C c D d), .agg (qyC it' sr' wh' gr' A' k' B' j' C' c' D' d')] W (.bool t)) := Lib.hid fun h W hW => sameq_any it it' sr sr' wh wh' gr gr' A A' k k' B B' j j' C C' c c' D D' d d' t ht
    (by have := h.items; simp only at this; omega) (by have := h.group; simp only at this; omega) (by have := h.wh; simp only at this; omega) (by have := h.src; simp only at this; omega) (fun x hx => Nat.le_trans (h.item x hx) (by decide)) (fun x hx => Nat.le_trans (h.one x hx) (by decide)) (fun x hx => Nat.le_trans (h.on x hx) (by decide))
    W (rA.grew hW) (rB.grew hW) (rC.grew hW) (rD.grew hW) (rA'.grew hW) (rB'.grew hW) (rC'.grew hW) (rD'.grew hW)
  have HRQ0 : Hid (goodQ ⟨it, sr, wh, gr⟩ → ∀ W, Grew w W → Gives Try.prog 52 #[.agg (qyC it sr wh gr A k B j C c D d), .agg (qyC it' sr' wh' gr' A' k' B' j' C' c' D' d')] W (.bool t)) := Lib.hid fun h W hW => rsq_any it it' sr sr' wh wh' gr gr' A A' k k' B B' j j' C C' c c' D D' d d' t ht
    (by have := h.items; simp only at this; omega) (by have := h.group; simp only at this; omega) (by have := h.wh; simp only at this; omega) (by have := h.src; simp only at this; omega) (fun x hx => Nat.le_trans (h.item x hx) (by decide)) (fun x hx => Nat.le_trans (h.one x hx) (by decide)) (fun x hx => Nat.le_trans (h.on x hx) (by decide))
    W (rA.grew hW) (rB.grew hW) (rC.grew hW) (rD.grew hW) (rA'.grew hW) (rB'.grew hW) (rC'.grew hW) (rD'.grew hW)
  have HSS0 : Hid (goodQ ⟨it, sr, wh, gr⟩ → ∀ W, Grew w W → Gives Try.prog 51 #[.agg (qyC it sr wh gr A k B j C c D d), .agg (qyC it sr wh gr A k B j C c D d)] W (.bool true)) := Lib.hid fun h W hW => sameq_any it it sr sr wh wh gr gr A A k k B B j j C C c c D D d d true (by simp)
    (by have := h.items; simp only at this; omega) (by have := h.group; simp only at this; omega) (by have := h.wh; simp only at this; omega) (by have := h.src; simp only at this; omega) (fun x hx => Nat.le_trans (h.item x hx) (by decide)) (fun x hx => Nat.le_trans (h.one x hx) (by decide)) (fun x hx => Nat.le_trans (h.on x hx) (by decide))
    W (rA.grew hW) (rB.grew hW) (rC.grew hW) (rD.grew hW) (rA.grew hW) (rB.grew hW) (rC.grew hW) (rD.grew hW)
  have hBa : Blok (((w.alloc (.cells (qyC it sr wh gr A k B j C c D d) 66)).alloc (.cells (qyC it' sr' wh' gr' A' k' B' j' C' c' D' d') 66)).alloc (.cells #[.int .i64 vk, .int .i64 vi, .string vs] 51)) w.heap.size 66 (qyC it sr wh gr A k B j C c D d) := ((Blok.new _ _ _ _ rfl).alloc _).alloc _
  have hBb : Blok (((w.alloc (.cells (qyC it sr wh gr A k B j C c D d) 66)).alloc (.cells (qyC it' sr' wh' gr' A' k' B' j' C' c' D' d') 66)).alloc (.cells #[.int .i64 vk, .int .i64 vi, .string vs] 51)) (w.heap.size + 1) 66 (qyC it' sr' wh' gr' A' k' B' j' C' c' D' d') := (Blok.new _ _ _ _ (by simp)).alloc _
  have hBv : Blok (((w.alloc (.cells (qyC it sr wh gr A k B j C c D d) 66)).alloc (.cells (qyC it' sr' wh' gr' A' k' B' j' C' c' D' d') 66)).alloc (.cells #[.int .i64 vk, .int .i64 vi, .string vs] 51)) (w.heap.size + 2) 51 #[.int .i64 vk, .int .i64 vi, .string vs] := Blok.new _ _ _ _ (by simp)
  have hGw : Grew w (((w.alloc (.cells (qyC it sr wh gr A k B j C c D d) 66)).alloc (.cells (qyC it' sr' wh' gr' A' k' B' j' C' c' D' d') 66)).alloc (.cells #[.int .i64 vk, .int .i64 vi, .string vs] 51)) := (((Grew.refl w).alloc _).alloc _).alloc _
  clear rA rB rC rD rA' rB' rC' rD' ht
  unfold qyC at *
  unfold Gives
  go_enter Try.func8, Try.ntmps8
  go_upto_region 1 with fail
  have HBa := Lib.hid hBa
  have HBb := Lib.hid hBb
  have HBv := Lib.hid hBv
  have HG1 := Lib.hid hGw
  clear hBa hBb hBv hGw
  change Code.wp _ _ _ _ (((w.alloc (.cells #[.slice A it.length k, .slice B sr.length j, .int .i64 wh.op, .string wh.tab, .string wh.name, .int .i64 wh.t, .int .i64 wh.c, .int .i64 wh.vk, .int .i64 wh.vi, .string wh.vs, .slice C wh.l.length c, .slice D gr.length d] 66)).alloc (.cells #[.slice A' it'.length k', .slice B' sr'.length j', .int .i64 wh'.op, .string wh'.tab, .string wh'.name, .int .i64 wh'.t, .int .i64 wh'.c, .int .i64 wh'.vk, .int .i64 wh'.vi, .string wh'.vs, .slice C' wh'.l.length c', .slice D' gr'.length d'] 66)).alloc (.cells #[.int .i64 vk, .int .i64 vi, .string vs] 51))
  generalize (((w.alloc (.cells #[.slice A it.length k, .slice B sr.length j, .int .i64 wh.op, .string wh.tab, .string wh.name, .int .i64 wh.t, .int .i64 wh.c, .int .i64 wh.vk, .int .i64 wh.vi, .string wh.vs, .slice C wh.l.length c, .slice D gr.length d] 66)).alloc (.cells #[.slice A' it'.length k', .slice B' sr'.length j', .int .i64 wh'.op, .string wh'.tab, .string wh'.name, .int .i64 wh'.t, .int .i64 wh'.c, .int .i64 wh'.vk, .int .i64 wh'.vi, .string wh'.vs, .slice C' wh'.l.length c', .slice D' gr'.length d'] 66)).alloc (.cells #[.int .i64 vk, .int .i64 vi, .string vs] 51)) = w1 at *
  generalize w.heap.size + 2 = gv at *
  generalize w.heap.size + 1 = gb at *
  generalize w.heap.size = ga at *
  have xl := (box12 HBa.out).lt
  have x0 := (box12 HBa.out).a0
  have x1 := (box12 HBa.out).a1
  have x2 := (box12 HBa.out).a2
  have x3 := (box12 HBa.out).a3
  have x4 := (box12 HBa.out).a4
  have x5 := (box12 HBa.out).a5
  have x6 := (box12 HBa.out).a6
  have x7 := (box12 HBa.out).a7
  have x8 := (box12 HBa.out).a8
  have x9 := (box12 HBa.out).a9
  have x10 := (box12 HBa.out).a10
  have x11 := (box12 HBa.out).a11
  go_wp2_with fail
  refine (HMa.out _ HG1.out).mono ?_
  rintro e w2 ⟨t1, rfl, hg2, h1⟩
  have HG2 := Lib.hid (HG1.out.trans hg2)
  have HBa := Lib.hid (HBa.out.grew hg2)
  have HBb := Lib.hid (HBb.out.grew hg2)
  have HBv := Lib.hid (HBv.out.grew hg2)
  have H1 := Lib.hid h1
  clear hg2 h1 xl x0 x1 x2 x3 x4 x5 x6 x7 x8 x9 x10 x11 HMa HG1
  cases t1
  rotate_left
  · clear HMb HCol HVal HRS1 HRS2 HOf0 HRS30 HSQ0 HRQ0 HSS0 H1 HBa HBb HBv
    go_wp2_with (first | (go_at_call 33; (with_reducible refine (live8_any _).grows.mono ?_); rintro e w6 ⟨rfl, hg6⟩; have G6 := Lib.hid hg6; clear hg6))
    go_ret
    exact ⟨rfl, HG2.out.trans G6.out⟩
  have ha := H1.out (by first | rfl | trivial)
  have HOf := Lib.hid (HOf0.out ha)
  have HRS3 := Lib.hid (HRS30.out ha)
  have HSQ := Lib.hid (HSQ0.out ha)
  have HRQ := Lib.hid (HRQ0.out ha)
  have HSS := Lib.hid (HSS0.out ha)
  clear ha H1 HOf0 HRS30 HSQ0 HRQ0 HSS0
  have yl := (box12 HBb.out).lt
  have y0 := (box12 HBb.out).a0
  have y1 := (box12 HBb.out).a1
  have y2 := (box12 HBb.out).a2
  have y3 := (box12 HBb.out).a3
  have y4 := (box12 HBb.out).a4
  have y5 := (box12 HBb.out).a5
  have y6 := (box12 HBb.out).a6
  have y7 := (box12 HBb.out).a7
  have y8 := (box12 HBb.out).a8
  have y9 := (box12 HBb.out).a9
  have y10 := (box12 HBb.out).a10
  have y11 := (box12 HBb.out).a11
  go_wp2_with fail
  refine (HMb.out _ HG2.out).mono ?_
  rintro e w4 ⟨t2, rfl, hg3, h2⟩
  have HG4 := Lib.hid (HG2.out.trans hg3)
  have HBa := Lib.hid (HBa.out.grew hg3)
  have HBb := Lib.hid (HBb.out.grew hg3)
  have HBv := Lib.hid (HBv.out.grew hg3)
  clear hg3 h2 yl y0 y1 y2 y3 y4 y5 y6 y7 y8 y9 y10 y11 HMb HG2
  cases t2
  rotate_left
  · clear HCol HVal HRS1 HRS2 HOf HRS3 HSQ HRQ HSS HBa HBb HBv
    go_wp2_with (first | (go_at_call 33; (with_reducible refine (live8_any _).grows.mono ?_); rintro e w6 ⟨rfl, hg6⟩; have G6 := Lib.hid hg6; clear hg6))
    go_ret
    exact ⟨rfl, HG4.out.trans G6.out⟩
  obtain ⟨n1, hn1⟩ : ∃ v, IntKind.i64.wrap ((tab.size : Int) + (name.size : Int)) = v := ⟨_, rfl⟩
  obtain ⟨n2, hn2⟩ : ∃ v, IntKind.i64.wrap (n1 + (vs.size : Int)) = v := ⟨_, rfl⟩
  obtain ⟨ul, u0, u1, u2⟩ := boxV HBv.out
  by_cases hn : (300 : Int) < n2
  · clear HCol HVal HRS1 HRS2 HOf HRS3 HSQ HRQ HSS HBa HBb HBv
    go_wp2_with (first | (go_at_call 33; (with_reducible refine (live8_any _).grows.mono ?_); rintro e w6 ⟨rfl, hg6⟩; have G6 := Lib.hid hg6; clear hg6))
    go_ret
    exact ⟨rfl, HG4.out.trans G6.out⟩
  have hn' : n2 ≤ 300 := by omega
  clear hn
  go_upto_region 3 with fail
  have HV : Hid (∀ W, Grew w4 W → gv < W.heap.size ∧ W.cell? ⟨gv, 0, none⟩ = some (.int .i64 vk) ∧ W.cell? ⟨gv, 1, none⟩ = some (.int .i64 vi) ∧ W.cell? ⟨gv, 2, none⟩ = some (.string vs)) := Lib.hid fun W hW => boxV (HBv.out.grew hW)
  have HQa := Lib.hid (fun W (hW : Grew w4 W) => box12 (HBa.out.grew hW))
  clear hn' hn1 hn2 ul u0 u1 u2
  refine wp_region_S (fun W => Grew w4 W) (by kernel_rfl) ?_
  refine held_take 0 (v := ?_) rfl (by kernel_rfl) (by kernel_rfl) (by kernel_rfl) (fun _ _ _ h => h) (by rfl) ?_ (Grew.refl _).drew ?_
  rotate_left
  · (intro W hW; go_simp; with_reducible rfl)
  refine held_take 1 (v := ?_) rfl (by kernel_rfl) (by kernel_rfl) (by kernel_rfl) (fun _ _ _ h => h) (by rfl) ?_ (Grew.refl _).drew ?_
  rotate_left
  · (intro W hW; go_simp; with_reducible rfl)
  refine held_norm (a' := ?_) ?_ ?_
  rotate_left
  · (go_simp; with_reducible rfl)
  refine held_take 3 (v := ?_) rfl (by kernel_rfl) (by kernel_rfl) (by kernel_rfl) (fun _ _ _ h => h) (by rfl) ?_ (Grew.refl _).drew ?_
  rotate_left
  · (intro W hW; go_simp; with_reducible rfl)
  refine held_take 4 (v := ?_) rfl (by kernel_rfl) (by kernel_rfl) (by kernel_rfl) (fun _ _ _ h => h) (by rfl) ?_ (Grew.refl _).drew ?_
  rotate_left
  · (intro W hW; go_simp; with_reducible rfl)
  refine held_norm (a' := ?_) ?_ ?_
  rotate_left
  · (go_simp; with_reducible rfl)
  refine held_take 5 (v := ?_) rfl (by kernel_rfl) (by kernel_rfl) (by kernel_rfl) (fun _ _ _ h => h) (by rfl) ?_ (Grew.refl _).drew ?_
  rotate_left
  · (intro W hW; go_simp; with_reducible rfl)
  refine held_norm (a' := ?_) ?_ ?_
  rotate_left
  · (go_simp; with_reducible rfl)
  refine held_call 2 (by kernel_rfl) rfl (by rfl) (fun K hK => ?_)
  go_simp
  (with_reducible refine (HCol.out _).grows.mono ?_)
  rintro e y1 ⟨rfl, hgx⟩
  have K1 : Hid (Grew w4 y1) := Lib.hid (Grew.trans ((Grew.refl _).drew) hgx)
  clear hgx
  go_wp2
  refine hK.out _ _ K1.out ?_
  clear hK K
  refine held_call 6 (by kernel_rfl) rfl (by rfl) (fun K hK => ?_)
  go_simp
  (with_reducible refine (HRS1.out _).grows.mono ?_)
  rintro e y2 ⟨rfl, hgx⟩
  have K2 : Hid (Grew w4 y2) := Lib.hid (Grew.trans (K1.out) hgx)
  clear hgx
  go_wp2
  refine hK.out _ _ K2.out ?_
  clear hK K
  refine held_take 7 (v := ?_) rfl (by kernel_rfl) (by kernel_rfl) (by kernel_rfl) (fun _ _ _ h => h) (by rfl) ?_ K2.out ?_
  rotate_left
  · (intro W hW; go_simp; with_reducible rfl)
  refine held_norm (a' := ?_) ?_ ?_
  rotate_left
  · (go_simp; with_reducible rfl)
  refine held_take 8 (v := ?_) rfl (by kernel_rfl) (by kernel_rfl) (by kernel_rfl) (fun _ _ _ h => h) (by rfl) ?_ K2.out ?_
  rotate_left
  · (intro W hW; obtain ⟨ul, u0, u1, u2⟩ := HV.out W hW; go_simp; with_reducible rfl)
  refine held_norm (a' := ?_) ?_ ?_
  rotate_left
  · (go_simp; with_reducible rfl)
  refine held_take 10 (v := ?_) rfl (by kernel_rfl) (by kernel_rfl) (by kernel_rfl) (fun _ _ _ h => h) (by rfl) ?_ K2.out ?_
  rotate_left
  · (intro W hW; obtain ⟨ul, u0, u1, u2⟩ := HV.out W hW; go_simp; with_reducible rfl)
  refine held_norm (a' := ?_) ?_ ?_
  rotate_left
  · (go_simp; with_reducible rfl)
  refine held_take 11 (v := ?_) rfl (by kernel_rfl) (by kernel_rfl) (by kernel_rfl) (fun _ _ _ h => h) (by rfl) ?_ K2.out ?_
  rotate_left
  · (intro W hW; go_simp; with_reducible rfl)
  refine held_norm (a' := ?_) ?_ ?_
  rotate_left
  · (go_simp; with_reducible rfl)
  refine held_call 9 (by kernel_rfl) rfl (by rfl) (fun K hK => ?_)
  go_simp
  (with_reducible refine (HVal.out _).grows.mono ?_)
  rintro e y3 ⟨rfl, hgx⟩
  have K3 : Hid (Grew w4 y3) := Lib.hid (Grew.trans (K2.out) hgx)
  clear hgx
  go_wp2
  refine hK.out _ _ K3.out ?_
  clear hK K
  refine held_call 12 (by kernel_rfl) rfl (by rfl) (fun K hK => ?_)
  go_simp
  (with_reducible refine (HRS2.out _).grows.mono ?_)
  rintro e y4 ⟨rfl, hgx⟩
  have K4 : Hid (Grew w4 y4) := Lib.hid (Grew.trans (K3.out) hgx)
  clear hgx
  go_wp2
  refine hK.out _ _ K4.out ?_
  clear hK K
  refine held_take 13 (v := ?_) rfl (by kernel_rfl) (by kernel_rfl) (by kernel_rfl) (fun _ _ _ h => h) (by rfl) ?_ K4.out ?_
  rotate_left
  · (intro W hW; go_simp; with_reducible rfl)
  refine held_norm (a' := ?_) ?_ ?_
  rotate_left
  · (go_simp; with_reducible rfl)
  refine held_take 14 (v := ?_) rfl (by kernel_rfl) (by kernel_rfl) (by kernel_rfl) (fun _ _ _ h => h) (by rfl) ?_ K4.out ?_
  rotate_left
  · (intro W hW; go_simp; with_reducible rfl)
  refine held_norm (a' := ?_) ?_ ?_
  rotate_left
  · (go_simp; with_reducible rfl)
  refine held_take 15 (v := ?_) rfl (by kernel_rfl) (by kernel_rfl) (by kernel_rfl) (fun _ _ _ h => h) (by rfl) ?_ K4.out ?_
  rotate_left
  · (intro W hW; go_simp; with_reducible rfl)
  refine held_norm (a' := ?_) ?_ ?_
  rotate_left
  · (go_simp; with_reducible rfl)
  refine held_take 16 (v := ?_) rfl (by kernel_rfl) (by kernel_rfl) (by kernel_rfl) (fun _ _ _ h => h) (by rfl) ?_ K4.out ?_
  rotate_left
  · (intro W hW; have xl := (HQa.out W hW).lt; have x0 := (HQa.out W hW).a0; go_simp; with_reducible rfl)
  refine held_norm (a' := ?_) ?_ ?_
  rotate_left
  · (go_simp; with_reducible rfl)
  refine held_take 17 (v := ?_) rfl (by kernel_rfl) (by kernel_rfl) (by kernel_rfl) (fun _ _ _ h => h) (by rfl) ?_ K4.out ?_
  rotate_left
  · (intro W hW; have xl := (HQa.out W hW).lt; have x0 := (HQa.out W hW).a0; go_simp; with_reducible rfl)
  refine held_norm (a' := ?_) ?_ ?_
  rotate_left
  · (go_simp; with_reducible rfl)
  refine held_take 19 (v := ?_) rfl (by kernel_rfl) (by kernel_rfl) (by kernel_rfl) (fun _ _ _ h => h) (by rfl) ?_ K4.out ?_
  rotate_left
  · (intro W hW; go_simp; with_reducible rfl)
  refine held_norm (a' := ?_) ?_ ?_
  rotate_left
  · (go_simp; with_reducible rfl)
  refine held_take 20 (v := ?_) rfl (by kernel_rfl) (by kernel_rfl) (by kernel_rfl) (fun _ _ _ h => h) (by rfl) ?_ K4.out ?_
  rotate_left
  · (intro W hW; have xl := (HQa.out W hW).lt; have x0 := (HQa.out W hW).a0; go_simp; with_reducible rfl)
  refine held_norm (a' := ?_) ?_ ?_
  rotate_left
  · (go_simp; with_reducible rfl)
  refine held_take 21 (v := ?_) rfl (by kernel_rfl) (by kernel_rfl) (by kernel_rfl) (fun _ _ _ h => h) (by rfl) ?_ K4.out ?_
  rotate_left
  · (intro W hW; have xl := (HQa.out W hW).lt; have x0 := (HQa.out W hW).a0; go_simp; with_reducible rfl)
  refine held_norm (a' := ?_) ?_ ?_
  rotate_left
  · (go_simp; with_reducible rfl)
  refine held_take 22 (v := ?_) rfl (by kernel_rfl) (by kernel_rfl) (by kernel_rfl) (fun _ _ _ h => h) (by rfl) ?_ K4.out ?_
  rotate_left
  · (intro W hW; go_simp; with_reducible rfl)
  refine held_norm (a' := ?_) ?_ ?_
  rotate_left
  · (go_simp; with_reducible rfl)
  refine held_call 18 (by kernel_rfl) rfl (by rfl) (fun K hK => ?_)
  go_simp
  (with_reducible refine (HOf.out _ (HG4.out.trans (K4.out))).mono ?_)
  rintro e y5 ⟨A9, k9, rfl, hgx, hx9⟩
  have K5 : Hid (Grew w4 y5) := Lib.hid (Grew.trans (K4.out) hgx)
  have HX9 := Lib.hid hx9; clear hx9
  clear hgx
  go_wp2
  refine hK.out _ _ K5.out ?_
  clear hK K
  refine held_call 23 (by kernel_rfl) rfl (by rfl) (fun K hK => ?_)
  go_simp
  (with_reducible refine (HRS3.out _ _ _ (HG4.out.trans (K5.out)) HX9.out).grows.mono ?_)
  rintro e y6 ⟨rfl, hgx⟩
  have K6 : Hid (Grew w4 y6) := Lib.hid (Grew.trans (K5.out) hgx)
  clear hgx
  go_wp2
  refine hK.out _ _ K6.out ?_
  clear hK K
  refine held_take 24 (v := ?_) rfl (by kernel_rfl) (by kernel_rfl) (by kernel_rfl) (fun _ _ _ h => h) (by rfl) ?_ K6.out ?_
  rotate_left
  · (intro W hW; go_simp; with_reducible rfl)
  refine held_norm (a' := ?_) ?_ ?_
  rotate_left
  · (go_simp; with_reducible rfl)
  refine held_take 25 (v := ?_) rfl (by kernel_rfl) (by kernel_rfl) (by kernel_rfl) (fun _ _ _ h => h) (by rfl) ?_ K6.out ?_
  rotate_left
  · (intro W hW; go_simp; with_reducible rfl)
  refine held_norm (a' := ?_) ?_ ?_
  rotate_left
  · (go_simp; with_reducible rfl)
  refine held_done (by kernel_rfl) ?_
  have HG5 := Lib.hid (HG4.out.trans K6.out)
  have HBa := Lib.hid (HBa.out.grew K6.out)
  have HBb := Lib.hid (HBb.out.grew K6.out)
  have ett : (t == t) = true := by simp
  clear HX9 HV HQa HCol HVal HRS1 HRS2 HOf HRS3 HBv HG4 K1 K2 K3 K4 K5 K6
  go_upto_region 4 with fail
  have HQa := Lib.hid (fun W (hW : Grew y6 W) => box12 (HBa.out.grew hW))
  have HQb := Lib.hid (fun W (hW : Grew y6 W) => box12 (HBb.out.grew hW))
  refine wp_region_S (fun W => Grew y6 W) (by kernel_rfl) ?_
  refine held_take 0 (v := ?_) rfl (by kernel_rfl) (by kernel_rfl) (by kernel_rfl) (fun _ _ _ h => h) (by rfl) ?_ (Grew.refl _).drew ?_
  rotate_left
  · (intro W hW; go_simp; with_reducible rfl)
  refine held_norm (a' := ?_) ?_ ?_
  rotate_left
  · (go_simp; with_reducible rfl)
  refine held_take 1 (v := ?_) rfl (by kernel_rfl) (by kernel_rfl) (by kernel_rfl) (fun _ _ _ h => h) (by rfl) ?_ (Grew.refl _).drew ?_
  rotate_left
  · (intro W hW; go_simp; with_reducible rfl)
  refine held_norm (a' := ?_) ?_ ?_
  rotate_left
  · (go_simp; with_reducible rfl)
  refine held_take 2 (v := ?_) rfl (by kernel_rfl) (by kernel_rfl) (by kernel_rfl) (fun _ _ _ h => h) (by rfl) ?_ (Grew.refl _).drew ?_
  rotate_left
  · (intro W hW; obtain ⟨xl, x0, x1, x2, x3, x4, x5, x6, x7, x8, x9, x10, x11⟩ := HQa.out W hW; go_simp; with_reducible rfl)
  refine held_norm (a' := ?_) ?_ ?_
  rotate_left
  · (go_simp; with_reducible rfl)
  refine held_take 3 (v := ?_) rfl (by kernel_rfl) (by kernel_rfl) (by kernel_rfl) (fun _ _ _ h => h) (by rfl) ?_ (Grew.refl _).drew ?_
  rotate_left
  · (intro W hW; obtain ⟨yl, y0, y1, y2, y3, y4, y5, y6, y7, y8, y9, y10, y11⟩ := HQb.out W hW; go_simp; with_reducible rfl)
  refine held_norm (a' := ?_) ?_ ?_
  rotate_left
  · (go_simp; with_reducible rfl)
  refine held_take 5 (v := ?_) rfl (by kernel_rfl) (by kernel_rfl) (by kernel_rfl) (fun _ _ _ h => h) (by rfl) ?_ (Grew.refl _).drew ?_
  rotate_left
  · (intro W hW; obtain ⟨xl, x0, x1, x2, x3, x4, x5, x6, x7, x8, x9, x10, x11⟩ := HQa.out W hW; go_simp; with_reducible rfl)
  refine held_norm (a' := ?_) ?_ ?_
  rotate_left
  · (go_simp; with_reducible rfl)
  refine held_take 6 (v := ?_) rfl (by kernel_rfl) (by kernel_rfl) (by kernel_rfl) (fun _ _ _ h => h) (by rfl) ?_ (Grew.refl _).drew ?_
  rotate_left
  · (intro W hW; obtain ⟨yl, y0, y1, y2, y3, y4, y5, y6, y7, y8, y9, y10, y11⟩ := HQb.out W hW; go_simp; with_reducible rfl)
  refine held_norm (a' := ?_) ?_ ?_
  rotate_left
  · (go_simp; with_reducible rfl)
  refine held_call 4 (by kernel_rfl) rfl (by rfl) (fun K hK => ?_)
  go_simp
  (with_reducible refine (HSQ.out _ (HG5.out.trans ((Grew.refl _).drew))).grows.mono ?_)
  rintro e y7 ⟨rfl, hgx⟩
  have K7 : Hid (Grew y6 y7) := Lib.hid (Grew.trans ((Grew.refl _).drew) hgx)
  clear hgx
  go_wp2
  refine hK.out _ _ K7.out ?_
  clear hK K
  refine held_call 7 (by kernel_rfl) rfl (by rfl) (fun K hK => ?_)
  go_simp
  (with_reducible refine (HRQ.out _ (HG5.out.trans (K7.out))).grows.mono ?_)
  rintro e y8 ⟨rfl, hgx⟩
  have K8 : Hid (Grew y6 y8) := Lib.hid (Grew.trans (K7.out) hgx)
  clear hgx
  go_wp2
  refine hK.out _ _ K8.out ?_
  clear hK K
  refine held_take 8 (v := ?_) rfl (by kernel_rfl) (by kernel_rfl) (by kernel_rfl) (fun _ _ _ h => h) (by rfl) ?_ K8.out ?_
  rotate_left
  · (intro W hW; go_simp; with_reducible rfl)
  refine held_norm (a' := ?_) ?_ ?_
  rotate_left
  · (go_simp; with_reducible rfl)
  refine held_take 9 (v := ?_) rfl (by kernel_rfl) (by kernel_rfl) (by kernel_rfl) (fun _ _ _ h => h) (by rfl) ?_ K8.out ?_
  rotate_left
  · (intro W hW; go_simp; with_reducible rfl)
  refine held_norm (a' := ?_) ?_ ?_
  rotate_left
  · (go_simp; with_reducible rfl)
  refine held_take 10 (v := ?_) rfl (by kernel_rfl) (by kernel_rfl) (by kernel_rfl) (fun _ _ _ h => h) (by rfl) ?_ K8.out ?_
  rotate_left
  · (intro W hW; go_simp; with_reducible rfl)
  refine held_norm (a' := ?_) ?_ ?_
  rotate_left
  · (go_simp; with_reducible rfl)
  refine held_take 11 (v := ?_) rfl (by kernel_rfl) (by kernel_rfl) (by kernel_rfl) (fun _ _ _ h => h) (by rfl) ?_ K8.out ?_
  rotate_left
  · (intro W hW; obtain ⟨xl, x0, x1, x2, x3, x4, x5, x6, x7, x8, x9, x10, x11⟩ := HQa.out W hW; go_simp; with_reducible rfl)
  refine held_norm (a' := ?_) ?_ ?_
  rotate_left
  · (go_simp; with_reducible rfl)
  refine held_take 12 (v := ?_) rfl (by kernel_rfl) (by kernel_rfl) (by kernel_rfl) (fun _ _ _ h => h) (by rfl) ?_ K8.out ?_
  rotate_left
  · (intro W hW; obtain ⟨xl, x0, x1, x2, x3, x4, x5, x6, x7, x8, x9, x10, x11⟩ := HQa.out W hW; go_simp; with_reducible rfl)
  refine held_norm (a' := ?_) ?_ ?_
  rotate_left
  · (go_simp; with_reducible rfl)
  refine held_call 13 (by kernel_rfl) rfl (by rfl) (fun K hK => ?_)
  go_simp
  (with_reducible refine (HSS.out _ (HG5.out.trans (K8.out))).grows.mono ?_)
  rintro e y9 ⟨rfl, hgx⟩
  have K9 : Hid (Grew y6 y9) := Lib.hid (Grew.trans (K8.out) hgx)
  clear hgx
  go_wp2
  refine hK.out _ _ K9.out ?_
  clear hK K
  refine held_take 14 (v := ?_) rfl (by kernel_rfl) (by kernel_rfl) (by kernel_rfl) (fun _ _ _ h => h) (by rfl) ?_ K9.out ?_
  rotate_left
  · (intro W hW; go_simp; with_reducible rfl)
  refine held_norm (a' := ?_) ?_ ?_
  rotate_left
  · (go_simp; with_reducible rfl)
  refine held_take 15 (v := ?_) rfl (by kernel_rfl) (by kernel_rfl) (by kernel_rfl) (fun _ _ _ h => h) (by rfl) ?_ K9.out ?_
  rotate_left
  · (intro W hW; go_simp; with_reducible rfl)
  refine held_norm (a' := ?_) ?_ ?_
  rotate_left
  · (go_simp; with_reducible rfl)
  refine held_call 16 (by kernel_rfl) rfl (by rfl) (fun K hK => ?_)
  go_simp
  (with_reducible refine (live8_any _).grows.mono ?_)
  rintro e y10 ⟨rfl, hgx⟩
  have K10 : Hid (Grew y6 y10) := Lib.hid (Grew.trans (K9.out) hgx)
  clear hgx
  go_wp2
  refine hK.out _ _ K10.out ?_
  clear hK K
  refine held_take 17 (v := ?_) rfl (by kernel_rfl) (by kernel_rfl) (by kernel_rfl) (fun _ _ _ h => h) (by rfl) ?_ K10.out ?_
  rotate_left
  · (intro W hW; go_simp; with_reducible rfl)
  refine held_norm (a' := ?_) ?_ ?_
  rotate_left
  · (go_simp; with_reducible rfl)
  refine held_take 18 (v := ?_) rfl (by kernel_rfl) (by kernel_rfl) (by kernel_rfl) (fun _ _ _ h => h) (by rfl) ?_ K10.out ?_
  rotate_left
  · (intro W hW; go_simp; with_reducible rfl)
  refine held_norm (a' := ?_) ?_ ?_
  rotate_left
  · (go_simp; with_reducible rfl)
  refine held_done (by kernel_rfl) ?_
  go_wp2_with fail
  go_ret
  exact ⟨rfl, HG5.out.trans K10.out⟩
end Go.Proofs.Ytcokhgomibimcaa
