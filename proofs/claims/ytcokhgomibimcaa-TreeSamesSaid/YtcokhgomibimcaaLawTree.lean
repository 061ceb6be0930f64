/- Layer 8: the law of two expressions. Condition: expressions that lie in memory that is there. -/
import Derived.Test.YtcokhgomibimcaaTree10
namespace Go.Proofs.Ytcokhgomibimcaa
open Go.RowKit
attribute [local go_sem] more_cell more_frozen more_more more_setCell more_of_drew more_of_drewN lt_more le_more past_cell past_cell2 past_frozen past_frozen2 past_setCell past_setCell2 mid_cell mid_frozen mid_setCell
attribute [local go_sem ↓] Go.wp_at_zero Go.wp_at_succ

theorem box9 {w : World} {b : Nat} {x : Ex} {A : Option Addr} {k : Nat} (h : Blok w b 54 #[.int .i64 x.op, .string x.tab, .string x.name, .int .i64 x.t, .int .i64 x.c, .int .i64 x.vk, .int .i64 x.vi, .string x.vs, .slice A x.l.length k]) : At9 w b 0 x A k := blok9 h
set_option maxHeartbeats 4000000 in
set_option maxRecDepth 100000 in
theorem treeSames_walk (a b : Ex) (A B : Option Addr) (k j : Nat) (w : World) (ra : ExsR (PRow w) A a.l) (rb : ExsR (PRow w) B b.l) :
    Gives Try.prog 7 #[exV a A k, exV b B j] w (.bool true) := by
  have RA := Lib.hid ra
  have RB := Lib.hid rb
  clear ra rb
  have HMa : Hid (∀ W, Grew w W → Calls Try.prog 32 #[exV a A k] W (MuchR W (a.nodes ≤ 200))) := Lib.hid fun W hW => much8_any a A k W (RA.out.grew hW)
  have HMb : Hid (∀ W, Grew w W → Calls Try.prog 32 #[exV b B j] W (MuchR W (b.nodes ≤ 200))) := Lib.hid fun W hW => much8_any b B j W (RB.out.grew hW)
  obtain ⟨t, ht⟩ := some_bool (a = b)
  have HT := Lib.hid ht
  clear ht
  have HS1 : Hid (a.nodes ≤ 200 → ∀ W, Grew w W → Gives Try.prog 45 #[exV a A k, exV b B j] W (.bool t)) := Lib.hid fun h W hW => same_ex 200 (by omega) a b h A B k j t HT.out W (RA.out.grew hW) (RB.out.grew hW)
  have HS2 : Hid (a.nodes ≤ 200 → ∀ W, Grew w W → Gives Try.prog 46 #[exV a A k, exV b B j] W (.bool t)) := Lib.hid fun h W hW => rsame_ex 200 (by omega) a b h A B k j t HT.out W (RA.out.grew hW) (RB.out.grew hW)
  have HS3 : Hid (a.nodes ≤ 200 → ∀ W, Grew w W → Gives Try.prog 45 #[exV a A k, exV a A k] W (.bool true)) := Lib.hid fun h W hW => same_ex 200 (by omega) a a h A A k k true (by simp) W (RA.out.grew hW) (RA.out.grew hW)
  have hBa : Blok ((w.alloc (.cells (exC a A k).toArray 54)).alloc (.cells (exC b B j).toArray 54)) w.heap.size 54 (exC a A k).toArray := (Blok.new _ _ _ _ rfl).alloc _
  have hBb : Blok ((w.alloc (.cells (exC a A k).toArray 54)).alloc (.cells (exC b B j).toArray 54)) (w.heap.size + 1) 54 (exC b B j).toArray := Blok.new _ _ _ _ (by simp)
  have hGw : Grew w ((w.alloc (.cells (exC a A k).toArray 54)).alloc (.cells (exC b B j).toArray 54)) := ((Grew.refl w).alloc _).alloc _
  unfold exV at *
  unfold Gives
  go_enter Try.func7, Try.ntmps7
  go_upto_region 1 with fail
  have HBa := Lib.hid hBa
  have HBb := Lib.hid hBb
  have HGw := Lib.hid hGw
  clear hBa hBb hGw RA RB HT
  change Code.wp _ _ _ _ ((w.alloc (.cells (exC a A k).toArray 54)).alloc (.cells (exC b B j).toArray 54))
  generalize ((w.alloc (.cells (exC a A k).toArray 54)).alloc (.cells (exC b B j).toArray 54)) = w1 at *
  generalize w.heap.size = ga at *
  obtain ⟨la, a0, a1, a2, a3, a4, a5, a6, a7, a8⟩ := box9 HBa.out
  go_wp2_with fail
  refine (HMa.out _ HGw.out).mono ?_
  rintro e w2 ⟨t1, rfl, hg2, h1⟩
  have HG2 := Lib.hid (HGw.out.trans hg2)
  have HBa := Lib.hid (HBa.out.grew hg2)
  have HBb := Lib.hid (HBb.out.grew hg2)
  have H1 := Lib.hid h1
  clear hg2 h1 la a0 a1 a2 a3 a4 a5 a6 a7 a8 HMa
  cases t1
  rotate_left
  · clear HS1 HS2 HS3 HMb H1 HBa HBb
    go_wp2_with (first | (go_at_call 33; (with_reducible refine (live8_any _).grows.mono ?_); rintro e w6 ⟨rfl, hg6⟩; have G6 := Lib.hid hg6; clear hg6))
    go_ret
    exact ⟨rfl, HG2.out.trans G6.out⟩
  obtain ⟨lb, b0, b1, b2, b3, b4, b5, b6, b7, b8⟩ := box9 HBb.out
  go_wp2_with fail
  refine (HMb.out _ HG2.out).mono ?_
  rintro e w3 ⟨t2, rfl, hg3, h2⟩
  have HG3 := Lib.hid (HG2.out.trans hg3)
  have HBa := Lib.hid (HBa.out.grew hg3)
  have HBb := Lib.hid (HBb.out.grew hg3)
  have ha : a.nodes ≤ 200 := H1.out (by first | rfl | trivial)
  clear hg3 h2 lb b0 b1 b2 b3 b4 b5 b6 b7 b8 HMb H1 HG2
  have HS1 := Lib.hid (HS1.out ha)
  have HS2 := Lib.hid (HS2.out ha)
  have HS3 := Lib.hid (HS3.out ha)
  clear ha
  cases t2
  rotate_left
  · clear HS1 HS2 HS3 HBa HBb
    go_wp2_with (first | (go_at_call 33; (with_reducible refine (live8_any _).grows.mono ?_); rintro e w6 ⟨rfl, hg6⟩; have G6 := Lib.hid hg6; clear hg6))
    go_ret
    exact ⟨rfl, HG3.out.trans G6.out⟩
  obtain ⟨la, a0, a1, a2, a3, a4, a5, a6, a7, a8⟩ := box9 HBa.out
  obtain ⟨lb, b0, b1, b2, b3, b4, b5, b6, b7, b8⟩ := box9 HBb.out
  have ett : (t == t) = true := by simp
  clear HBa HBb
  go_upto_region 3 with fail
  refine wp_region_more (by kernel_rfl) (by kernel_rfl) ?_
  repeat (go_big_quiet_step ((first | (go_at_call 45; exact (HS3.out _ (HG3.out.more _)).within) | (go_at_call 45; exact (HS1.out _ (HG3.out.more _)).within) | (go_at_call 46; exact (HS2.out _ (HG3.out.more _)).within) | (go_at_call 33; exact (live8_any _).within))))
  refine wpQuiet_nil ?_
  rintro _ ⟨z, rfl⟩
  go_wp2
  go_ret
  exact ⟨rfl, HG3.out.more _⟩
end Go.Proofs.Ytcokhgomibimcaa
