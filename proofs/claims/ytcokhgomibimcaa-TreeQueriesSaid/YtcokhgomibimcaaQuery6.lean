/- Layer 8: the program's answer whether two queries are the same. Condition: queries that lie in memory that is there. -/
import Derived.Test.YtcokhgomibimcaaQuery5
namespace Go.Proofs.Ytcokhgomibimcaa
open Go.RowKit
attribute [local go_sem] more_cell more_frozen more_more more_setCell more_of_drew more_of_drewN lt_more le_more past_cell past_cell2 past_frozen past_frozen2 past_setCell past_setCell2 mid_cell mid_frozen mid_setCell
attribute [local go_sem ↓] Go.wp_at_zero Go.wp_at_succ
set_option maxHeartbeats 4000000 in
set_option maxRecDepth 100000 in
theorem sameq_any (it it' : List Ex) (sr sr' : List Fr) (wh wh' : Ex) (gr gr' : List Ex) (A A' : Option Addr) (k k' : Nat) (B B' : Option Addr) (j j' : Nat) (C C' : Option Addr) (c c' : Nat) (D D' : Option Addr) (d d' : Nat)
    (t : Bool) (ht : t = true ↔ it = it' ∧ gr = gr' ∧ wh = wh' ∧ sr = sr') (hn1 : it.length ≤ 1000000) (hn2 : gr.length ≤ 1000000) (hn3 : wh.nodes ≤ 1000000) (hn4 : sr.length ≤ 1000000)
    (hi1 : ∀ x ∈ it, x.nodes ≤ 1000000) (hi2 : ∀ x ∈ gr, x.nodes ≤ 1000000) (hi3 : ∀ x ∈ sr, x.on.nodes ≤ 1000000) (w : World)
    (rA : ExsR (PRow w) A it) (rB : FrsR (PRow w) B sr) (rC : ExsR (PRow w) C wh.l) (rD : ExsR (PRow w) D gr)
    (rA' : ExsR (PRow w) A' it') (rB' : FrsR (PRow w) B' sr') (rC' : ExsR (PRow w) C' wh'.l) (rD' : ExsR (PRow w) D' gr') :
    Gives Try.prog 51 #[.agg (qyC it sr wh gr A k B j C c D d), .agg (qyC it' sr' wh' gr' A' k' B' j' C' c' D' d')] w (.bool t) := by
  obtain ⟨t1, ht1⟩ := some_bool (it = it')
  obtain ⟨t2, ht2⟩ := some_bool (sr = sr')
  obtain ⟨t3, ht3⟩ := some_bool (wh = wh')
  obtain ⟨t4, ht4⟩ := some_bool (gr = gr')
  have HC1 : Hid (∀ W, Grew w W → Gives Try.prog 115 #[.slice A it.length k, .slice A' it'.length k', .func (.func 45) #[] #[]] W (.bool t1)) := Lib.hid fun W hW => eqf_same it it' A A' k k' _ _ rfl rfl hn1 t1 ht1 W (fun a b ha P Q p q t ht V hV ra rb => same_ex 1000000 (Nat.le_refl _) a b (hi1 a ha) P Q p q t ht V ra rb) (rA.grew hW) (rA'.grew hW)
  have HC2 : Hid (∀ W, Grew w W → Gives Try.prog 117 #[.slice B sr.length j, .slice B' sr'.length j', .func (.func 118) #[] #[]] W (.bool t2)) := Lib.hid fun W hW => eqf_from sr sr' B B' j j' _ _ rfl rfl hn4 t2 ht2 W (fun a b ha P Q p q t ht V hV ra rb => samefrom_any a b P Q p q (hi3 a ha) t ht V ra rb) (rB.grew hW) (rB'.grew hW)
  have HC3 : Hid (∀ W, Grew w W → Gives Try.prog 45 #[exV wh C c, exV wh' C' c'] W (.bool t3)) := Lib.hid fun W hW => same_ex 1000000 (Nat.le_refl _) wh wh' hn3 C C' c c' t3 ht3 W (rC.grew hW) (rC'.grew hW)
  have HC4 : Hid (∀ W, Grew w W → Gives Try.prog 115 #[.slice D gr.length d, .slice D' gr'.length d', .func (.func 45) #[] #[]] W (.bool t4)) := Lib.hid fun W hW => eqf_same gr gr' D D' d d' _ _ rfl rfl hn2 t4 ht4 W (fun a b ha P Q p q t ht V hV ra rb => same_ex 1000000 (Nat.le_refl _) a b (hi2 a ha) P Q p q t ht V ra rb) (rD.grew hW) (rD'.grew hW)
  have HT : Hid (t = true ↔ t1 = true ∧ t2 = true ∧ t3 = true ∧ t4 = true) := Lib.hid (by
    rw [ht, ht1, ht2, ht3, ht4]
    exact ⟨fun ⟨a, b, c, d⟩ => ⟨a, d, c, b⟩, fun ⟨a, d, c, b⟩ => ⟨a, b, c, d⟩⟩)
  have hBa : Blok ((w.alloc (.cells (qyC it sr wh gr A k B j C c D d) 66)).alloc (.cells (qyC it' sr' wh' gr' A' k' B' j' C' c' D' d') 66)) w.heap.size 66 (qyC it sr wh gr A k B j C c D d) := (Blok.new _ _ _ _ rfl).alloc _
  have hBb : Blok ((w.alloc (.cells (qyC it sr wh gr A k B j C c D d) 66)).alloc (.cells (qyC it' sr' wh' gr' A' k' B' j' C' c' D' d') 66)) (w.heap.size + 1) 66 (qyC it' sr' wh' gr' A' k' B' j' C' c' D' d') := Blok.new _ _ _ _ (by simp)
  have hGw : Grew w ((w.alloc (.cells (qyC it sr wh gr A k B j C c D d) 66)).alloc (.cells (qyC it' sr' wh' gr' A' k' B' j' C' c' D' d') 66)) := ((Grew.refl w).alloc _).alloc _
  clear rA rB rC rD rA' rB' rC' rD' ht ht1 ht2 ht3 ht4 hi1 hi2 hi3 hn1 hn2 hn3 hn4
  unfold exV at HC3
  unfold qyC at *
  unfold Gives
  go_enter Try.func51, Try.ntmps51
  go_upto_region 1 with fail
  have HBa := Lib.hid hBa
  have HBb := Lib.hid hBb
  have HG1 := Lib.hid hGw
  clear hBa hBb hGw
  change Code.wp _ _ _ _ ((w.alloc (.cells #[.slice A it.length k, .slice B sr.length j, .int .i64 wh.op, .string wh.tab, .string wh.name, .int .i64 wh.t, .int .i64 wh.c, .int .i64 wh.vk, .int .i64 wh.vi, .string wh.vs, .slice C wh.l.length c, .slice D gr.length d] 66)).alloc (.cells #[.slice A' it'.length k', .slice B' sr'.length j', .int .i64 wh'.op, .string wh'.tab, .string wh'.name, .int .i64 wh'.t, .int .i64 wh'.c, .int .i64 wh'.vk, .int .i64 wh'.vi, .string wh'.vs, .slice C' wh'.l.length c', .slice D' gr'.length d'] 66))
  generalize ((w.alloc (.cells #[.slice A it.length k, .slice B sr.length j, .int .i64 wh.op, .string wh.tab, .string wh.name, .int .i64 wh.t, .int .i64 wh.c, .int .i64 wh.vk, .int .i64 wh.vi, .string wh.vs, .slice C wh.l.length c, .slice D gr.length d] 66)).alloc (.cells #[.slice A' it'.length k', .slice B' sr'.length j', .int .i64 wh'.op, .string wh'.tab, .string wh'.name, .int .i64 wh'.t, .int .i64 wh'.c, .int .i64 wh'.vk, .int .i64 wh'.vi, .string wh'.vs, .slice C' wh'.l.length c', .slice D' gr'.length d'] 66)) = w1 at *
  generalize w.heap.size + 1 = gb at *
  generalize w.heap.size = ga at *
  have xl := (box12 HBa.out).lt
  have x0 := (box12 HBa.out).a0
  have yl := (box12 HBb.out).lt
  have y0 := (box12 HBb.out).a0
  go_wp2_with fail
  refine (HC1.out _ HG1.out).grows.mono ?_
  rintro e w2 ⟨rfl, hg2⟩
  have HG2 := Lib.hid (HG1.out.trans hg2)
  have HBa := Lib.hid (HBa.out.grew hg2)
  have HBb := Lib.hid (HBb.out.grew hg2)
  clear hg2 xl yl x0 y0 HC1 HG1
  cases t1
  · obtain rfl : t = false := not_true HT.out (fun e => Bool.noConfusion e.1)
    clear HC2 HC3 HC4 HBa HBb
    go_wp2
    go_ret
    exact ⟨rfl, HG2.out⟩
  have xl := (box12 HBa.out).lt
  have x1 := (box12 HBa.out).a1
  have yl := (box12 HBb.out).lt
  have y1 := (box12 HBb.out).a1
  go_wp2_with fail
  refine (HC2.out _ HG2.out).grows.mono ?_
  rintro e w3 ⟨rfl, hg3⟩
  have HG3 := Lib.hid (HG2.out.trans hg3)
  have HBa := Lib.hid (HBa.out.grew hg3)
  have HBb := Lib.hid (HBb.out.grew hg3)
  clear hg3 xl yl x1 y1 HC2 HG2
  cases t2
  · obtain rfl : t = false := not_true HT.out (fun e => Bool.noConfusion e.2.1)
    clear HC3 HC4 HBa HBb
    go_wp2
    go_ret
    exact ⟨rfl, HG3.out⟩
  have xl := (box12 HBa.out).lt
  have x2 := (box12 HBa.out).a2
  have x3 := (box12 HBa.out).a3
  have x4 := (box12 HBa.out).a4
  have x5 := (box12 HBa.out).a5
  have x6 := (box12 HBa.out).a6
  have x7 := (box12 HBa.out).a7
  have x8 := (box12 HBa.out).a8
  have x9 := (box12 HBa.out).a9
  have x10 := (box12 HBa.out).a10
  have yl := (box12 HBb.out).lt
  have y2 := (box12 HBb.out).a2
  have y3 := (box12 HBb.out).a3
  have y4 := (box12 HBb.out).a4
  have y5 := (box12 HBb.out).a5
  have y6 := (box12 HBb.out).a6
  have y7 := (box12 HBb.out).a7
  have y8 := (box12 HBb.out).a8
  have y9 := (box12 HBb.out).a9
  have y10 := (box12 HBb.out).a10
  go_wp2_with fail
  refine (HC3.out _ HG3.out).grows.mono ?_
  rintro e w4 ⟨rfl, hg4⟩
  have HG4 := Lib.hid (HG3.out.trans hg4)
  have HBa := Lib.hid (HBa.out.grew hg4)
  have HBb := Lib.hid (HBb.out.grew hg4)
  clear hg4 xl yl x2 y2 x3 y3 x4 y4 x5 y5 x6 y6 x7 y7 x8 y8 x9 y9 x10 y10 HC3 HG3
  cases t3
  · obtain rfl : t = false := not_true HT.out (fun e => Bool.noConfusion e.2.2.1)
    clear HC4 HBa HBb
    go_wp2
    go_ret
    exact ⟨rfl, HG4.out⟩
  have xl := (box12 HBa.out).lt
  have x11 := (box12 HBa.out).a11
  have yl := (box12 HBb.out).lt
  have y11 := (box12 HBb.out).a11
  go_wp2_with fail
  refine (HC4.out _ HG4.out).grows.mono ?_
  rintro e w5 ⟨rfl, hg5⟩
  have HG5 := Lib.hid (HG4.out.trans hg5)
  clear hg5 xl yl x11 y11 HC4 HG4 HBa HBb
  obtain rfl : t = t4 := by
    have h := HT.out
    revert h
    cases t <;> cases t4 <;> simp
  clear HT
  go_wp2
  go_ret
  exact ⟨rfl, HG5.out⟩
end Go.Proofs.Ytcokhgomibimcaa
