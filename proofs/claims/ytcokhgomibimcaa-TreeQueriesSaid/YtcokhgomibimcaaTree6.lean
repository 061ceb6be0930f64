/- Layer 8: how many parts, how deep, which sums, how it binds. Condition: expressions that lie in memory that is there. -/
import Derived.Test.YtcokhgomibimcaaTree5
namespace Go.Proofs.Ytcokhgomibimcaa
open Go.RowKit
attribute [local go_sem] more_cell more_frozen more_more more_setCell more_of_drew more_of_drewN lt_more le_more past_cell past_cell2 past_frozen past_frozen2 past_setCell past_setCell2 mid_cell mid_frozen mid_setCell
attribute [local go_sem ↓] Go.wp_at_zero Go.wp_at_succ

set_option maxHeartbeats 1000000 in
theorem nodes_ex (x : Ex) (A : Option Addr) (k : Nat) (hx : x.nodes ≤ 1000000) (w : World) (ra : ExsR (PRow w) A x.l) : Gives Try.prog 36 #[exV x A k] w (.int .i64 x.nodes) := by
  have HC : Hid (∀ W g c, Grew w W → w.heap.size ≤ c → g ≠ c → CountAs W g c → Blok W c 3 #[.int .i64 ((0 : Nat) : Int)] → Calls Try.prog 110 #[exV x A k, .pointer (some ⟨c, 0, none⟩), .pointer (some ⟨g, 0, none⟩)] W (NodesR w W g c (0 + x.nodes))) := Lib.hid fun W g c hW hc hgc h1 h2 =>
    nodesc_ex _ x (Nat.lt_succ_self _) A k 0 g c w W (by omega) hW hc hgc ra h1 h2
  clear ra hx
  generalize x.nodes = n at *
  unfold exV at *
  unfold Gives
  go_enter Try.func36, Try.ntmps36
  go_wp2_with fail
  refine (HC.out _ _ _ (((Grew.refl w).alloc _).alloc _ |>.alloc _) (by simp) (by simp) (Blok.new _ _ _ _ (by simp)) ((Blok.new _ _ _ _ (by simp)).alloc _)).mono ?_
  rintro e w2 ⟨rfl, hg2, hs2, hb2, ht2⟩
  have HG2 := Lib.hid hg2
  have c0 := hb2.cell 0
  have hl := hb2.lt
  simp at c0
  clear hg2 hs2 hb2 ht2
  go_wp2
  go_ret
  exact ⟨rfl, HG2.out⟩

/-- The variable that holds the function that asks itself. -/
def DeepAs (w : World) (g : Nat) : Prop := Blok w g 59 #[.func (.func 111) #[] #[.pointer (some ⟨g, 0, none⟩)]]
def DeepAt (w : World) (g : Nat) (l : List Ex) (v i : Value) (wr : World) : Prop := ∃ j : Nat, j ≤ l.length ∧ i = .int .i64 j ∧ v = .int .i64 ((depthL (l.take j) : Nat) : Int) ∧ Grew w wr ∧ DeepAs wr g
set_option maxHeartbeats 2000000 in
theorem depthc_ex (n : Nat) : ∀ (x : Ex), SizeOf.sizeOf x < n → x.nodes ≤ 1000000 → ∀ (A : Option Addr) (k g : Nat) (w : World), ExsR (PRow w) A x.l → DeepAs w g →
    Gives Try.prog 111 #[exV x A k, .pointer (some ⟨g, 0, none⟩)] w (.int .i64 x.depth) := by
  induction n with
  | zero => intro x hn; omega
  | succ n ih =>
    intro x hn hxn A k g w ra hs
    have hpart : ∀ y ∈ x.l, SizeOf.sizeOf y < n := fun y hy => by have := x.part_lt hy; omega
    have hpn : ∀ y ∈ x.l, y.nodes ≤ 1000000 := fun y hy => by have := nodes_part hy; omega
    have hll : x.l.length ≤ 1000000 := by have := nodes_len x; omega
    have hx : x.depth = depthL x.l + 1 := depth_eq x
    have hdd := depth_nodes x
    rw [hx] at hdd ⊢
    have hdl : depthL x.l ≤ 1000000 := by omega
    clear hdd
    obtain ⟨op, tab, name, tt, cc, vk, vi, vs, l⟩ := x
    simp only [Ex.l] at ra hpart hpn hll hdl ⊢
    have RA := Lib.hid ra
    have HI := Lib.hid (fun (y : Ex) (hy : y ∈ l) => ih y (hpart y hy) (hpn y hy))
    have HS := Lib.hid hs
    have HPd : Hid (∀ y ∈ l, y.depth ≤ 1000000) := Lib.hid fun y hy => Nat.le_trans (depth_nodes y) (hpn y hy)
    have HTd : Hid (∀ j, depthL (l.take j) ≤ 1000000) := Lib.hid fun j => by
      have e : depthL l = max (depthL (l.take j)) (depthL (l.drop j)) := by rw [← depthL_append, List.take_append_drop]
      omega
    obtain ⟨dd, hdq⟩ : ∃ dd, depthL l = dd := ⟨_, rfl⟩
    have HD := Lib.hid hdq
    rw [hdq] at hdl ⊢
    unfold exV Gives
    simp only [Ex.op, Ex.tab, Ex.name, Ex.t, Ex.c, Ex.vk, Ex.vi, Ex.vs, Ex.l]
    clear ra ih hpart hpn hn hx hs hxn hdq
    go_enter Try.func111, Try.ntmps111
    go_wp2
    go_loopw [4, 10] (fun v i wr => DeepAt w g l v i wr) (fun _ i _ => l.length - (intOf i).toNat)
    case atStart => exact ⟨0, Nat.zero_le _, rfl, by simp [depthL], by (show Grew _ _; repeat (first | exact Grew.refl _ | refine Grew.alloc ?_ _ | refine Grew.drew ?_ | refine Grew.more ?_ _)), HS.out.alloc _⟩
    case round =>
      obtain ⟨j, hj, rfl, rfl, hg, hs⟩ := hrel
      have HG := Lib.hid hg
      have HS := Lib.hid hs
      have c1 : wr.cell? ⟨g, 0, none⟩ = some (.func (.func 111) #[] #[.pointer (some ⟨g, 0, none⟩)]) := hs.cell 0
      have hgl : g < wr.heap.size := hs.lt
      clear hg hs
      by_cases h : j < l.length
      · obtain ⟨ba, oa, PA, ka, rfl, hpa, h9⟩ := exsR_nine RA.out h
        have HN := Lib.hid (depthL_take h)
        have HC : Hid (∀ W, Grew wr W → Gives Try.prog 111 #[exV l[j] PA ka, .pointer (some ⟨g, 0, none⟩)] W (.int .i64 l[j].depth)) := Lib.hid fun W hW =>
          HI.out _ (List.getElem_mem h) _ _ g W (hpa.grew (HG.out.trans hW)) (Blok.grew HS.out hW)
        have hb1 := HPd.out _ (List.getElem_mem h)
        have hb2 := HTd.out j
        obtain ⟨p0, a0, a1, a2, a3, a4, a5, a6, a7, a8⟩ := h9.grew HG.out
        clear h9 hpa HI HPd HTd
        generalize l[j] = y at *
        generalize y.depth = dy at *
        generalize depthL (l.take j) = dl at *
        unfold exV at HC
        go_wp2_with (first | (go_at_call 111; (with_reducible refine (HC.out _ ((Grew.refl wr).alloc _)).grows.mono ?_); rintro e w2 ⟨rfl, hg2⟩; have HG2 := Lib.hid (((Grew.refl wr).alloc _).trans hg2); clear hg2))
        all_goals exact ⟨⟨j + 1, by omega, by go_num, by rw [HN.out]; congr 1; omega, HG.out.trans HG2.out, Blok.grew HS.out HG2.out⟩, by simp only [intOf]; omega⟩
      · obtain rfl : j = l.length := by omega
        rw [List.take_length, HD.out]
        clear HTd HPd
        go_wp2
        go_ret
        exact ⟨ret_int (by first | rfl | omega), HG.out⟩
set_option maxHeartbeats 1000000 in
theorem depth_ex (x : Ex) (A : Option Addr) (k : Nat) (hx : x.nodes ≤ 1000000) (w : World) (ra : ExsR (PRow w) A x.l) : Gives Try.prog 37 #[exV x A k] w (.int .i64 x.depth) := by
  have HC : Hid (∀ W g, Grew w W → DeepAs W g → Gives Try.prog 111 #[exV x A k, .pointer (some ⟨g, 0, none⟩)] W (.int .i64 x.depth)) := Lib.hid fun W g hW h1 =>
    depthc_ex _ x (Nat.lt_succ_self _) hx A k g W (ra.grew hW) h1
  clear ra hx
  generalize x.depth = n at *
  unfold exV at *
  unfold Gives
  go_enter Try.func37, Try.ntmps37
  go_wp2_with fail
  refine (HC.out _ _ (((Grew.refl w).alloc _).alloc _) (Blok.new _ _ _ _ (by simp))).grows.mono ?_
  rintro e w2 ⟨rfl, hg2⟩
  have HG2 := Lib.hid ((((Grew.refl w).alloc _).alloc _).trans hg2)
  clear hg2
  go_wp2
  go_ret
  exact ⟨rfl, HG2.out⟩
end Go.Proofs.Ytcokhgomibimcaa
