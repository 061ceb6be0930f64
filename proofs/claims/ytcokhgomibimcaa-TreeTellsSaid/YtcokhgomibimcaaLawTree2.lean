/- Layer 8: the law of what an expression tells. Condition: an expression that lies in memory that is there. -/
import Derived.Test.YtcokhgomibimcaaTree11
namespace Go.Proofs.Ytcokhgomibimcaa
open Go.RowKit
attribute [local go_sem] more_cell more_frozen more_more more_setCell more_of_drew more_of_drewN lt_more le_more past_cell past_cell2 past_frozen past_frozen2 past_setCell past_setCell2 mid_cell mid_frozen mid_setCell
attribute [local go_sem ↓] Go.wp_at_zero Go.wp_at_succ

theorem box9 {w : World} {b : Nat} {x : Ex} {A : Option Addr} {k : Nat} (h : Blok w b 54 #[.int .i64 x.op, .string x.tab, .string x.name, .int .i64 x.t, .int .i64 x.c, .int .i64 x.vk, .int .i64 x.vi, .string x.vs, .slice A x.l.length k]) : At9 w b 0 x A k := blok9 h
def TellAt (u : World) (fl : List Ex) (dl : List Int) (n : Nat) (v7 v8 i : Value) (wr : World) : Prop := ∃ j : Nat, j ≤ n ∧ i = .int .i64 j ∧ v7 = .int .i64 (topI 0 (dl.take j)) ∧ v8 = .bool (anyS (fl.take j)) ∧ Grew u wr
theorem cols_nodes (x : Ex) : ∀ y ∈ x.cols, y.nodes ≤ x.nodes := by
  refine ex_ind (P := fun x => ∀ y ∈ x.cols, y.nodes ≤ x.nodes) (fun x ih => ?_) x
  intro y hy
  by_cases h : x.op = 15
  · rw [cols_in h] at hy
    simp at hy
    rw [hy]
    exact Nat.le_refl _
  · rw [cols_out h] at hy
    have : ∀ l : List Ex, (∀ z ∈ l, ∀ y ∈ z.cols, y.nodes ≤ z.nodes) → y ∈ colsE l → y.nodes ≤ nodesL l := by
      intro l
      induction l with
      | nil => intro _ hy; simp [colsE] at hy
      | cons z l ih =>
        intro hz hy
        simp only [colsE, List.mem_append] at hy
        simp only [nodesL]
        rcases hy with hy | hy
        · have := hz z (by simp) y hy; omega
        · have := ih (fun z' hz' => hz z' (by simp [hz'])) hy; omega
    have := this x.l ih hy
    rw [nodes_eq x]
    omega
theorem row_ints {w : World} {A : Option Addr} {l : List Int} (h : Row w A (iV l)) {j : Nat} (hj : j < l.length) : ∃ b o, A = some ⟨b, o, none⟩ ∧ b < w.heap.size ∧ w.cell? ⟨b, o + j, none⟩ = some (.int .i64 l[j]) := by
  rcases h with h | ⟨b, o, hA, hb, hc⟩
  · exfalso
    have := congrArg List.length h
    simp [iV] at this
    subst this
    simp at hj
  · exact ⟨b, o, hA, hb, hc j _ (by simp [iV, hj])⟩
set_option maxHeartbeats 8000000 in
set_option maxRecDepth 100000 in
theorem treeTells_walk (x : Ex) (A : Option Addr) (k : Nat) (op : Int) (w : World) (ra : ExsR (PRow w) A x.l) :
    Gives Try.prog 6 #[exV x A k, .int .i64 op] w (.bool true) := by
  have RA := Lib.hid ra
  clear ra
  have HMa : Hid (∀ W, Grew w W → Calls Try.prog 32 #[exV x A k] W (MuchR W (x.nodes ≤ 200))) := Lib.hid fun W hW => much8_any x A k W (RA.out.grew hW)
  have HFl0 : Hid (x.nodes ≤ 200 → ∀ W, Grew w W → Calls Try.prog 34 #[exV x A k, .int .i64 1] W (FlatF w W x.flat (x.deps 1))) := Lib.hid fun h W hW => rflat_ex _ x (Nat.lt_succ_self _) A k 1 w W (by omega) (by omega) hW RA.out
  have HCo0 : Hid (x.nodes ≤ 200 → ∀ W, Grew w W → Calls Try.prog 35 #[exV x A k] W (ExsF W x.cols)) := Lib.hid fun h W hW => cols_ex x A k (by omega) W (RA.out.grew hW)
  have HRC0 : Hid (x.nodes ≤ 200 → ∀ W, Grew w W → Calls Try.prog 40 #[exV x A k] W (ColsF w W x.cols)) := Lib.hid fun h W hW => rcols_ex _ x (Nat.lt_succ_self _) A k w W (by omega) hW RA.out
  have HNo0 : Hid (x.nodes ≤ 200 → ∀ W, Grew w W → Gives Try.prog 36 #[exV x A k] W (.int .i64 x.nodes)) := Lib.hid fun h W hW => nodes_ex x A k (by omega) W (RA.out.grew hW)
  have HDe0 : Hid (x.nodes ≤ 200 → ∀ W, Grew w W → Gives Try.prog 37 #[exV x A k] W (.int .i64 x.depth)) := Lib.hid fun h W hW => depth_ex x A k (by omega) W (RA.out.grew hW)
  have HSu0 : Hid (x.nodes ≤ 200 → ∀ W, Grew w W → Gives Try.prog 38 #[exV x A k] W (.bool x.sums)) := Lib.hid fun h W hW => sums_ex x A k (by omega) W (RA.out.grew hW)
  have HLe : Hid (∀ W, Gives Try.prog 41 #[exV x A k] W (.int .i64 (levelI x.op))) := Lib.hid fun W => level_ex x A k W
  have HRL : Hid (∀ W, Gives Try.prog 42 #[.int .i64 x.op] W (.int .i64 (levelI x.op))) := Lib.hid fun W => rlevel_ex x.op W
  have HAr : Hid (∀ W, Gives Try.prog 43 #[.int .i64 op] W (.int .i64 (argsI op))) := Lib.hid fun W => args_ex op W
  have HRA : Hid (∀ W, Gives Try.prog 44 #[.int .i64 op] W (.int .i64 (argsI op))) := Lib.hid fun W => rargs_ex op W
  have hBa : Blok (w.alloc (.cells (exC x A k).toArray 54)) w.heap.size 54 (exC x A k).toArray := Blok.new _ _ _ _ rfl
  have hGw : Grew w (w.alloc (.cells (exC x A k).toArray 54)) := (Grew.refl w).alloc _
  have HNd : Hid (x.flat.length = x.nodes ∧ (x.deps 1).length = x.nodes ∧ x.cols.length ≤ x.nodes ∧ x.depth ≤ x.nodes) := Lib.hid ⟨flat_len x, deps_len x 1, cols_len x, depth_nodes x⟩
  have HTop : Hid (topI 0 (x.deps 1) = (x.depth : Int)) := Lib.hid (top_flat x)
  have HAny : Hid (anyS x.flat = x.sums) := Lib.hid (anyS_flat x)
  have HCn0 : Hid (x.nodes ≤ 200 → ∀ y ∈ x.cols, y.nodes ≤ 1000000) := Lib.hid fun h y hy => by have := cols_nodes x y hy; omega
  unfold exV at *
  unfold Gives
  go_enter Try.func6, Try.ntmps6
  go_upto_region 1 with fail
  have HBa := Lib.hid hBa
  have HGw := Lib.hid hGw
  clear hBa hGw RA
  change Code.wp _ _ _ _ (w.alloc (.cells (exC x A k).toArray 54))
  generalize (w.alloc (.cells (exC x A k).toArray 54)) = w1 at *
  generalize w.heap.size = ga at *
  obtain ⟨la, a0, a1, a2, a3, a4, a5, a6, a7, a8⟩ := box9 HBa.out
  go_wp2_with fail
  refine (HMa.out _ HGw.out).mono ?_
  rintro e w2 ⟨t1, rfl, hg2, h1⟩
  have HG2 := Lib.hid (HGw.out.trans hg2)
  have HBa := Lib.hid (HBa.out.grew hg2)
  have H1 := Lib.hid h1
  clear hg2 h1 la a0 a1 a2 a3 a4 a5 a6 a7 a8 HMa
  cases t1
  rotate_left
  · clear HFl0 HCo0 HRC0 HNo0 HDe0 HSu0 HLe HRL HAr HRA H1 HBa HNd HTop HAny HCn0
    go_wp2_with (first | (go_at_call 33; (with_reducible refine (live8_any _).grows.mono ?_); rintro e w6 ⟨rfl, hg6⟩; have G6 := Lib.hid hg6; clear hg6))
    go_ret
    exact ⟨rfl, HG2.out.trans G6.out⟩
  have ha : x.nodes ≤ 200 := H1.out (by first | rfl | trivial)
  have HFl := Lib.hid (HFl0.out ha)
  have HCo := Lib.hid (HCo0.out ha)
  have HRC := Lib.hid (HRC0.out ha)
  have HNo := Lib.hid (HNo0.out ha)
  have HDe := Lib.hid (HDe0.out ha)
  have HSu := Lib.hid (HSu0.out ha)
  have HCn := Lib.hid (HCn0.out ha)
  obtain ⟨hfl, hdl, hcl, hdn⟩ := HNd.out
  clear H1 HNd HFl0 HCo0 HRC0 HNo0 HDe0 HSu0 HCn0
  generalize x.nodes = n at *
  generalize x.depth = dp at *
  generalize x.sums = sm at *
  generalize levelI x.op = lv at *
  generalize argsI op = ag at *
  generalize x.flat = fl at *
  generalize x.deps 1 = dl at *
  generalize x.cols = cl at *
  have HFL := Lib.hid hfl
  have HDL := Lib.hid hdl
  clear hfl hdl
  obtain ⟨la, a0, a1, a2, a3, a4, a5, a6, a7, a8⟩ := box9 HBa.out
  go_wp2_with fail
  refine (HFl.out _ HG2.out).mono ?_
  rintro e w3 ⟨A5, k5, B6, k6, rfl, hg3, hx3, ho3⟩
  rw [HFL.out, HDL.out]
  have HG3 := Lib.hid (HG2.out.trans hg3)
  have HBa := Lib.hid (HBa.out.grew hg3)
  have HXs := Lib.hid (hx3.exs HG3.out)
  have HDs : Hid (Row w3 B6 (iV dl)) := Lib.hid (own_rowI ho3)
  clear hg3 hx3 ho3 la a0 a1 a2 a3 a4 a5 a6 a7 a8 HFl HG2
  go_upto_region 5 with fail
  go_wp2_with fail
  go_loopw [7, 8, 9] (fun v7 v8 i wr => TellAt w3 fl dl n v7 v8 i wr) (fun _ _ i _ => n - (intOf i).toNat)
  case atStart => exact ⟨0, Nat.zero_le _, rfl, rfl, rfl, Grew.refl _⟩
  case round =>
    obtain ⟨j, hj, rfl, rfl, rfl, hg⟩ := hrel
    have HG := Lib.hid hg
    clear hg
    by_cases h : j < n
    · obtain ⟨ba, oa, PA, ka, rfl, hpa, h9⟩ := exsR_nine HXs.out (show j < fl.length by rw [HFL.out]; exact h)
      obtain ⟨p0, a0, a1, a2, a3, a4, a5, a6, a7, a8⟩ := h9.grew HG.out
      obtain ⟨bb, ob, rfl, hbb, d0⟩ := row_ints (Row.grew HDs.out HG.out) (show j < dl.length by rw [HDL.out]; exact h)
      have HT1 := Lib.hid (topI_take 0 dl (show j < dl.length by rw [HDL.out]; exact h))
      have HA1 := Lib.hid (anyS_take fl (show j < fl.length by rw [HFL.out]; exact h))
      clear h9 hpa a1 a2 a3 a4 a5 a6 a7 a8 HBa
      obtain ⟨tp1, htp1⟩ : ∃ v, topI 0 (dl.take (j + 1)) = v := ⟨_, rfl⟩
      obtain ⟨sb1, hsb1⟩ : ∃ v, anyS (fl.take (j + 1)) = v := ⟨_, rfl⟩
      rw [htp1] at HT1
      rw [hsb1] at HA1
      have HK : Hid (TellAt w3 fl dl n (.int .i64 tp1) (.bool sb1) (.int .i64 ((j : Int) + 1)) wr) := Lib.hid ⟨j + 1, by omega, by go_num, by rw [htp1], by rw [hsb1], HG.out⟩
      clear htp1 hsb1
      generalize topI 0 (dl.take j) = tp at *
      generalize anyS (fl.take j) = sb at *
      generalize (dl[j]'(by rw [HDL.out]; exact h)) = z at *
      generalize (fl[j]'(by rw [HFL.out]; exact h)).op = q at *
      by_cases hz : tp < z
      · have e1 : tp1 = z := by have := HT1.out; rw [this]; unfold topS; rw [if_pos hz]
        subst e1
        clear HT1
        cases sb
        · by_cases h17 : 17 ≤ q
          · by_cases h21 : q ≤ 21
            · have e2 : sb1 = true := by have := HA1.out; rw [this]; simp; omega
              subst e2
              clear HA1
              go_wp2
              exact ⟨HK.out, by simp only [intOf]; omega⟩
            · have e2 : sb1 = false := by have := HA1.out; rw [this]; simp; omega
              subst e2
              clear HA1
              have h21' : 21 < q := by omega
              go_wp2
              exact ⟨HK.out, by simp only [intOf]; omega⟩
          · have e2 : sb1 = false := by have := HA1.out; rw [this]; simp; omega
            subst e2
            clear HA1
            have h17' : q < 17 := by omega
            go_wp2
            exact ⟨HK.out, by simp only [intOf]; omega⟩
        · have e2 : sb1 = true := by have := HA1.out; rw [this]; simp
          subst e2
          clear HA1
          go_wp2
          exact ⟨HK.out, by simp only [intOf]; omega⟩
      · have e1 : tp1 = tp := by have := HT1.out; rw [this]; unfold topS; rw [if_neg hz]
        subst e1
        have hz' : z ≤ tp1 := by omega
        clear HT1
        cases sb
        · by_cases h17 : 17 ≤ q
          · by_cases h21 : q ≤ 21
            · have e2 : sb1 = true := by have := HA1.out; rw [this]; simp; omega
              subst e2
              clear HA1
              go_wp2
              exact ⟨HK.out, by simp only [intOf]; omega⟩
            · have e2 : sb1 = false := by have := HA1.out; rw [this]; simp; omega
              subst e2
              clear HA1
              have h21' : 21 < q := by omega
              go_wp2
              exact ⟨HK.out, by simp only [intOf]; omega⟩
          · have e2 : sb1 = false := by have := HA1.out; rw [this]; simp; omega
            subst e2
            clear HA1
            have h17' : q < 17 := by omega
            go_wp2
            exact ⟨HK.out, by simp only [intOf]; omega⟩
        · have e2 : sb1 = true := by have := HA1.out; rw [this]; simp
          subst e2
          clear HA1
          go_wp2
          exact ⟨HK.out, by simp only [intOf]; omega⟩
    · obtain rfl : n = j := by omega
      have HT0 : Hid (topI 0 (dl.take n) = (dp : Int)) := Lib.hid (by rw [List.take_of_length_le (by rw [HDL.out]; exact Nat.le_refl _)]; exact HTop.out)
      have HA0 : Hid (anyS (fl.take n) = sm) := Lib.hid (by rw [List.take_of_length_le (by rw [HFL.out]; exact Nat.le_refl _)]; exact HAny.out)
      rw [HT0.out, HA0.out]
      have HG4 := Lib.hid (HG3.out.trans HG.out)
      have HBa := Lib.hid (HBa.out.grew HG.out)
      clear HT0 HA0 HTop HAny HXs HDs HFL HDL HG hj h
      obtain ⟨la, a0, a1, a2, a3, a4, a5, a6, a7, a8⟩ := box9 HBa.out
      go_upto_region 11 with fail
      go_wp2_with fail
      refine (HCo.out _ HG4.out).mono ?_
      rintro e w5 ⟨Aa, kk, rfl, hg5, hx5⟩
      have HG5 := Lib.hid (HG4.out.trans hg5)
      have HS : Hid (∀ W, Grew w5 W → At9 W ga 0 x A k) := Lib.hid fun W hW => box9 (HBa.out.grew (hg5.trans hW))
      have hmc : cl.length ≤ 1000000 := by omega
      have HSA : Hid (∀ W A' k', Grew w5 W → ExsR (PRow W) A' cl → Gives Try.prog 39 #[.slice Aa cl.length kk, .slice A' cl.length k'] W (.bool true)) := Lib.hid fun W A' k' hW hx => rsameAll_ex cl Aa A' kk k' cl.length rfl HCn.out hmc W (hx5.grew hW) hx
      have le1 : decide ((cl.length : Int) ≤ (n : Int)) = true := decide_eq_true (by omega)
      have le2 : decide ((dp : Int) ≤ (n : Int)) = true := decide_eq_true (by omega)
      have ett : (sm == sm) = true := by simp
      clear hg5 hx5 la a0 a1 a2 a3 a4 a5 a6 a7 a8 HCo HG4 hmc HCn
      go_upto_region 12 with fail
      clear HBa
      refine wp_region_grew (by kernel_rfl) ?_
      refine held_take 0 (v := ?_) rfl (by kernel_rfl) (by kernel_rfl) (by kernel_rfl) (fun _ _ _ h => h) (by rfl) ?_ (Grew.refl _).drew ?_
      rotate_left
      · (intro W hW; obtain ⟨_, q0, q1, q2, q3, q4, q5, q6, q7, q8⟩ := HS.out W hW; go_simp; with_reducible rfl)
      refine held_norm (a' := ?_) ?_ ?_
      rotate_left
      · (go_simp; with_reducible rfl)
      refine held_take 2 (v := ?_) rfl (by kernel_rfl) (by kernel_rfl) (by kernel_rfl) (fun _ _ _ h => h) (by rfl) ?_ (Grew.refl _).drew ?_
      rotate_left
      · (intro W hW; go_simp; with_reducible rfl)
      refine held_take 3 (v := ?_) rfl (by kernel_rfl) (by kernel_rfl) (by kernel_rfl) (fun _ _ _ h => h) (by rfl) ?_ (Grew.refl _).drew ?_
      rotate_left
      · (intro W hW; go_simp; with_reducible rfl)
      refine held_norm (a' := ?_) ?_ ?_
      rotate_left
      · (go_simp; with_reducible rfl)
      refine held_call 1 (by kernel_rfl) rfl (by rfl) (fun K hK => ?_)
      go_simp
      go_wp2_with (go_at_call 36; (with_reducible refine ((HNo.out _ (HG5.out.trans ((Grew.refl _).drew))).grows).mono ?_); rintro e y1 ⟨rfl, hgx⟩; have K1 : Hid (Grew w5 y1) := Lib.hid (Grew.trans ((Grew.refl _).drew) hgx); clear hgx)
      refine hK.out _ _ K1.out ?_
      clear hK K
      refine held_take 4 (v := ?_) rfl (by kernel_rfl) (by kernel_rfl) (by kernel_rfl) (fun _ _ _ h => h) (by rfl) ?_ K1.out ?_
      rotate_left
      · (intro W hW; go_simp; with_reducible rfl)
      refine held_take 5 (v := ?_) rfl (by kernel_rfl) (by kernel_rfl) (by kernel_rfl) (fun _ _ _ h => h) (by rfl) ?_ K1.out ?_
      rotate_left
      · (intro W hW; go_simp; with_reducible rfl)
      refine held_norm (a' := ?_) ?_ ?_
      rotate_left
      · (go_simp; with_reducible rfl)
      refine held_take 6 (v := ?_) rfl (by kernel_rfl) (by kernel_rfl) (by kernel_rfl) (fun _ _ _ h => h) (by rfl) ?_ K1.out ?_
      rotate_left
      · (intro W hW; obtain ⟨_, q0, q1, q2, q3, q4, q5, q6, q7, q8⟩ := HS.out W hW; go_simp; with_reducible rfl)
      refine held_norm (a' := ?_) ?_ ?_
      rotate_left
      · (go_simp; with_reducible rfl)
      refine held_take 8 (v := ?_) rfl (by kernel_rfl) (by kernel_rfl) (by kernel_rfl) (fun _ _ _ h => h) (by rfl) ?_ K1.out ?_
      rotate_left
      · (intro W hW; go_simp; with_reducible rfl)
      refine held_norm (a' := ?_) ?_ ?_
      rotate_left
      · (go_simp; with_reducible rfl)
      refine held_call 7 (by kernel_rfl) rfl (by rfl) (fun K hK => ?_)
      go_simp
      go_wp2_with (go_at_call 37; (with_reducible refine ((HDe.out _ (HG5.out.trans (K1.out))).grows).mono ?_); rintro e y2 ⟨rfl, hgx⟩; have K2 : Hid (Grew w5 y2) := Lib.hid (Grew.trans (K1.out) hgx); clear hgx)
      refine hK.out _ _ K2.out ?_
      clear hK K
      refine held_take 9 (v := ?_) rfl (by kernel_rfl) (by kernel_rfl) (by kernel_rfl) (fun _ _ _ h => h) (by rfl) ?_ K2.out ?_
      rotate_left
      · (intro W hW; go_simp; with_reducible rfl)
      refine held_take 10 (v := ?_) rfl (by kernel_rfl) (by kernel_rfl) (by kernel_rfl) (fun _ _ _ h => h) (by rfl) ?_ K2.out ?_
      rotate_left
      · (intro W hW; go_simp; with_reducible rfl)
      refine held_take 11 (v := ?_) rfl (by kernel_rfl) (by kernel_rfl) (by kernel_rfl) (fun _ _ _ h => h) (by rfl) ?_ K2.out ?_
      rotate_left
      · (intro W hW; go_simp; with_reducible rfl)
      refine held_norm (a' := ?_) ?_ ?_
      rotate_left
      · (go_simp; with_reducible rfl)
      refine held_take 12 (v := ?_) rfl (by kernel_rfl) (by kernel_rfl) (by kernel_rfl) (fun _ _ _ h => h) (by rfl) ?_ K2.out ?_
      rotate_left
      · (intro W hW; obtain ⟨_, q0, q1, q2, q3, q4, q5, q6, q7, q8⟩ := HS.out W hW; go_simp; with_reducible rfl)
      refine held_norm (a' := ?_) ?_ ?_
      rotate_left
      · (go_simp; with_reducible rfl)
      refine held_take 14 (v := ?_) rfl (by kernel_rfl) (by kernel_rfl) (by kernel_rfl) (fun _ _ _ h => h) (by rfl) ?_ K2.out ?_
      rotate_left
      · (intro W hW; go_simp; with_reducible rfl)
      refine held_norm (a' := ?_) ?_ ?_
      rotate_left
      · (go_simp; with_reducible rfl)
      refine held_call 13 (by kernel_rfl) rfl (by rfl) (fun K hK => ?_)
      go_simp
      go_wp2_with (go_at_call 38; (with_reducible refine ((HSu.out _ (HG5.out.trans (K2.out))).grows).mono ?_); rintro e y3 ⟨rfl, hgx⟩; have K3 : Hid (Grew w5 y3) := Lib.hid (Grew.trans (K2.out) hgx); clear hgx)
      refine hK.out _ _ K3.out ?_
      clear hK K
      refine held_take 15 (v := ?_) rfl (by kernel_rfl) (by kernel_rfl) (by kernel_rfl) (fun _ _ _ h => h) (by rfl) ?_ K3.out ?_
      rotate_left
      · (intro W hW; go_simp; with_reducible rfl)
      refine held_take 16 (v := ?_) rfl (by kernel_rfl) (by kernel_rfl) (by kernel_rfl) (fun _ _ _ h => h) (by rfl) ?_ K3.out ?_
      rotate_left
      · (intro W hW; go_simp; with_reducible rfl)
      refine held_take 17 (v := ?_) rfl (by kernel_rfl) (by kernel_rfl) (by kernel_rfl) (fun _ _ _ h => h) (by rfl) ?_ K3.out ?_
      rotate_left
      · (intro W hW; go_simp; with_reducible rfl)
      refine held_take 18 (v := ?_) rfl (by kernel_rfl) (by kernel_rfl) (by kernel_rfl) (fun _ _ _ h => h) (by rfl) ?_ K3.out ?_
      rotate_left
      · (intro W hW; go_simp; with_reducible rfl)
      refine held_norm (a' := ?_) ?_ ?_
      rotate_left
      · (go_simp; with_reducible rfl)
      refine held_take 19 (v := ?_) rfl (by kernel_rfl) (by kernel_rfl) (by kernel_rfl) (fun _ _ _ h => h) (by rfl) ?_ K3.out ?_
      rotate_left
      · (intro W hW; obtain ⟨_, q0, q1, q2, q3, q4, q5, q6, q7, q8⟩ := HS.out W hW; go_simp; with_reducible rfl)
      refine held_norm (a' := ?_) ?_ ?_
      rotate_left
      · (go_simp; with_reducible rfl)
      refine held_call 20 (by kernel_rfl) rfl (by rfl) (fun K hK => ?_)
      go_simp
      go_wp2_with (go_at_call 40; (with_reducible refine (HRC.out _ (HG5.out.trans (K3.out))).mono ?_); rintro e y4 ⟨Ac, kc, rfl, hgx, hxc⟩; have K4 : Hid (Grew w5 y4) := Lib.hid (Grew.trans (K3.out) hgx); have HXc := Lib.hid hxc; clear hxc; clear hgx)
      refine hK.out _ _ K4.out ?_
      clear hK K
      refine held_call 21 (by kernel_rfl) rfl (by rfl) (fun K hK => ?_)
      go_simp
      go_wp2_with (go_at_call 39; (with_reducible refine ((HSA.out _ _ _ (K4.out) (HXc.out.exs (HG5.out.trans (K4.out)))).grows).mono ?_); rintro e y5 ⟨rfl, hgx⟩; have K5 : Hid (Grew w5 y5) := Lib.hid (Grew.trans (K4.out) hgx); clear hgx)
      refine hK.out _ _ K5.out ?_
      clear hK K
      refine held_take 22 (v := ?_) rfl (by kernel_rfl) (by kernel_rfl) (by kernel_rfl) (fun _ _ _ h => h) (by rfl) ?_ K5.out ?_
      rotate_left
      · (intro W hW; go_simp; with_reducible rfl)
      refine held_take 23 (v := ?_) rfl (by kernel_rfl) (by kernel_rfl) (by kernel_rfl) (fun _ _ _ h => h) (by rfl) ?_ K5.out ?_
      rotate_left
      · (intro W hW; go_simp; with_reducible rfl)
      refine held_norm (a' := ?_) ?_ ?_
      rotate_left
      · (go_simp; with_reducible rfl)
      refine held_take 24 (v := ?_) rfl (by kernel_rfl) (by kernel_rfl) (by kernel_rfl) (fun _ _ _ h => h) (by rfl) ?_ K5.out ?_
      rotate_left
      · (intro W hW; obtain ⟨_, q0, q1, q2, q3, q4, q5, q6, q7, q8⟩ := HS.out W hW; go_simp; with_reducible rfl)
      refine held_norm (a' := ?_) ?_ ?_
      rotate_left
      · (go_simp; with_reducible rfl)
      refine held_take 26 (v := ?_) rfl (by kernel_rfl) (by kernel_rfl) (by kernel_rfl) (fun _ _ _ h => h) (by rfl) ?_ K5.out ?_
      rotate_left
      · (intro W hW; go_simp; with_reducible rfl)
      refine held_norm (a' := ?_) ?_ ?_
      rotate_left
      · (go_simp; with_reducible rfl)
      refine held_take 27 (v := ?_) rfl (by kernel_rfl) (by kernel_rfl) (by kernel_rfl) (fun _ _ _ h => h) (by rfl) ?_ K5.out ?_
      rotate_left
      · (intro W hW; obtain ⟨_, q0, q1, q2, q3, q4, q5, q6, q7, q8⟩ := HS.out W hW; go_simp; with_reducible rfl)
      refine held_norm (a' := ?_) ?_ ?_
      rotate_left
      · (go_simp; with_reducible rfl)
      refine held_call 25 (by kernel_rfl) rfl (by rfl) (fun K hK => ?_)
      go_simp
      go_wp2_with (go_at_call 41; (with_reducible refine ((HLe.out _).grows).mono ?_); rintro e y6 ⟨rfl, hgx⟩; have K6 : Hid (Grew w5 y6) := Lib.hid (Grew.trans (K5.out) hgx); clear hgx)
      refine hK.out _ _ K6.out ?_
      clear hK K
      refine held_call 28 (by kernel_rfl) rfl (by rfl) (fun K hK => ?_)
      go_simp
      go_wp2_with (go_at_call 42; (with_reducible refine ((HRL.out _).grows).mono ?_); rintro e y7 ⟨rfl, hgx⟩; have K7 : Hid (Grew w5 y7) := Lib.hid (Grew.trans (K6.out) hgx); clear hgx)
      refine hK.out _ _ K7.out ?_
      clear hK K
      refine held_take 29 (v := ?_) rfl (by kernel_rfl) (by kernel_rfl) (by kernel_rfl) (fun _ _ _ h => h) (by rfl) ?_ K7.out ?_
      rotate_left
      · (intro W hW; go_simp; with_reducible rfl)
      refine held_take 30 (v := ?_) rfl (by kernel_rfl) (by kernel_rfl) (by kernel_rfl) (fun _ _ _ h => h) (by rfl) ?_ K7.out ?_
      rotate_left
      · (intro W hW; go_simp; with_reducible rfl)
      refine held_take 31 (v := ?_) rfl (by kernel_rfl) (by kernel_rfl) (by kernel_rfl) (fun _ _ _ h => h) (by rfl) ?_ K7.out ?_
      rotate_left
      · (intro W hW; go_simp; with_reducible rfl)
      refine held_take 32 (v := ?_) rfl (by kernel_rfl) (by kernel_rfl) (by kernel_rfl) (fun _ _ _ h => h) (by rfl) ?_ K7.out ?_
      rotate_left
      · (intro W hW; go_simp; with_reducible rfl)
      refine held_take 34 (v := ?_) rfl (by kernel_rfl) (by kernel_rfl) (by kernel_rfl) (fun _ _ _ h => h) (by rfl) ?_ K7.out ?_
      rotate_left
      · (intro W hW; go_simp; with_reducible rfl)
      refine held_norm (a' := ?_) ?_ ?_
      rotate_left
      · (go_simp; with_reducible rfl)
      refine held_call 33 (by kernel_rfl) rfl (by rfl) (fun K hK => ?_)
      go_simp
      go_wp2_with (go_at_call 43; (with_reducible refine ((HAr.out _).grows).mono ?_); rintro e y8 ⟨rfl, hgx⟩; have K8 : Hid (Grew w5 y8) := Lib.hid (Grew.trans (K7.out) hgx); clear hgx)
      refine hK.out _ _ K8.out ?_
      clear hK K
      refine held_call 35 (by kernel_rfl) rfl (by rfl) (fun K hK => ?_)
      go_simp
      go_wp2_with (go_at_call 44; (with_reducible refine ((HRA.out _).grows).mono ?_); rintro e y9 ⟨rfl, hgx⟩; have K9 : Hid (Grew w5 y9) := Lib.hid (Grew.trans (K8.out) hgx); clear hgx)
      refine hK.out _ _ K9.out ?_
      clear hK K
      refine held_take 36 (v := ?_) rfl (by kernel_rfl) (by kernel_rfl) (by kernel_rfl) (fun _ _ _ h => h) (by rfl) ?_ K9.out ?_
      rotate_left
      · (intro W hW; go_simp; with_reducible rfl)
      refine held_take 37 (v := ?_) rfl (by kernel_rfl) (by kernel_rfl) (by kernel_rfl) (fun _ _ _ h => h) (by rfl) ?_ K9.out ?_
      rotate_left
      · (intro W hW; go_simp; with_reducible rfl)
      refine held_take 38 (v := ?_) rfl (by kernel_rfl) (by kernel_rfl) (by kernel_rfl) (fun _ _ _ h => h) (by rfl) ?_ K9.out ?_
      rotate_left
      · (intro W hW; go_simp; with_reducible rfl)
      refine held_norm (a' := ?_) ?_ ?_
      rotate_left
      · (go_simp; with_reducible rfl)
      refine held_take 39 (v := ?_) rfl (by kernel_rfl) (by kernel_rfl) (by kernel_rfl) (fun _ _ _ h => h) (by rfl) ?_ K9.out ?_
      rotate_left
      · (intro W hW; go_simp; with_reducible rfl)
      refine held_norm (a' := ?_) ?_ ?_
      rotate_left
      · (go_simp; with_reducible rfl)
      refine held_take 40 (v := ?_) rfl (by kernel_rfl) (by kernel_rfl) (by kernel_rfl) (fun _ _ _ h => h) (by rfl) ?_ K9.out ?_
      rotate_left
      · (intro W hW; go_simp; with_reducible rfl)
      refine held_norm (a' := ?_) ?_ ?_
      rotate_left
      · (go_simp; with_reducible rfl)
      refine held_take 41 (v := ?_) rfl (by kernel_rfl) (by kernel_rfl) (by kernel_rfl) (fun _ _ _ h => h) (by rfl) ?_ K9.out ?_
      rotate_left
      · (intro W hW; go_simp; with_reducible rfl)
      refine held_take 42 (v := ?_) rfl (by kernel_rfl) (by kernel_rfl) (by kernel_rfl) (fun _ _ _ h => h) (by rfl) ?_ K9.out ?_
      rotate_left
      · (intro W hW; go_simp; with_reducible rfl)
      refine held_norm (a' := ?_) ?_ ?_
      rotate_left
      · (go_simp; with_reducible rfl)
      refine held_take 43 (v := ?_) rfl (by kernel_rfl) (by kernel_rfl) (by kernel_rfl) (fun _ _ _ h => h) (by rfl) ?_ K9.out ?_
      rotate_left
      · (intro W hW; go_simp; with_reducible rfl)
      refine held_norm (a' := ?_) ?_ ?_
      rotate_left
      · (go_simp; with_reducible rfl)
      refine held_take 44 (v := ?_) rfl (by kernel_rfl) (by kernel_rfl) (by kernel_rfl) (fun _ _ _ h => h) (by rfl) ?_ K9.out ?_
      rotate_left
      · (intro W hW; go_simp; with_reducible rfl)
      refine held_take 45 (v := ?_) rfl (by kernel_rfl) (by kernel_rfl) (by kernel_rfl) (fun _ _ _ h => h) (by rfl) ?_ K9.out ?_
      rotate_left
      · (intro W hW; go_simp; with_reducible rfl)
      refine held_norm (a' := ?_) ?_ ?_
      rotate_left
      · (go_simp; with_reducible rfl)
      refine held_take 46 (v := ?_) rfl (by kernel_rfl) (by kernel_rfl) (by kernel_rfl) (fun _ _ _ h => h) (by rfl) ?_ K9.out ?_
      rotate_left
      · (intro W hW; go_simp; with_reducible rfl)
      refine held_take 47 (v := ?_) rfl (by kernel_rfl) (by kernel_rfl) (by kernel_rfl) (fun _ _ _ h => h) (by rfl) ?_ K9.out ?_
      rotate_left
      · (intro W hW; go_simp; with_reducible rfl)
      refine held_take 48 (v := ?_) rfl (by kernel_rfl) (by kernel_rfl) (by kernel_rfl) (fun _ _ _ h => h) (by rfl) ?_ K9.out ?_
      rotate_left
      · (intro W hW; go_simp; with_reducible rfl)
      refine held_norm (a' := ?_) ?_ ?_
      rotate_left
      · (go_simp; with_reducible rfl)
      refine held_take 49 (v := ?_) rfl (by kernel_rfl) (by kernel_rfl) (by kernel_rfl) (fun _ _ _ h => h) (by rfl) ?_ K9.out ?_
      rotate_left
      · (intro W hW; go_simp; with_reducible rfl)
      refine held_norm (a' := ?_) ?_ ?_
      rotate_left
      · (go_simp; with_reducible rfl)
      refine held_take 50 (v := ?_) rfl (by kernel_rfl) (by kernel_rfl) (by kernel_rfl) (fun _ _ _ h => h) (by rfl) ?_ K9.out ?_
      rotate_left
      · (intro W hW; go_simp; with_reducible rfl)
      refine held_take 51 (v := ?_) rfl (by kernel_rfl) (by kernel_rfl) (by kernel_rfl) (fun _ _ _ h => h) (by rfl) ?_ K9.out ?_
      rotate_left
      · (intro W hW; go_simp; with_reducible rfl)
      refine held_norm (a' := ?_) ?_ ?_
      rotate_left
      · (go_simp; with_reducible rfl)
      refine held_call 52 (by kernel_rfl) rfl (by rfl) (fun K hK => ?_)
      go_simp
      go_wp2_with (go_at_call 33; (with_reducible refine ((live8_any _).grows).mono ?_); rintro e y10 ⟨rfl, hgx⟩; have K10 : Hid (Grew w5 y10) := Lib.hid (Grew.trans (K9.out) hgx); clear hgx)
      refine hK.out _ _ K10.out ?_
      clear hK K
      refine held_take 53 (v := ?_) rfl (by kernel_rfl) (by kernel_rfl) (by kernel_rfl) (fun _ _ _ h => h) (by rfl) ?_ K10.out ?_
      rotate_left
      · (intro W hW; go_simp; with_reducible rfl)
      refine held_take 54 (v := ?_) rfl (by kernel_rfl) (by kernel_rfl) (by kernel_rfl) (fun _ _ _ h => h) (by rfl) ?_ K10.out ?_
      rotate_left
      · (intro W hW; go_simp; with_reducible rfl)
      refine held_norm (a' := ?_) ?_ ?_
      rotate_left
      · (go_simp; with_reducible rfl)
      refine held_done (by kernel_rfl) ?_
      go_wp2_with fail
      go_ret
      exact ⟨rfl, HG5.out.trans K10.out⟩
end Go.Proofs.Ytcokhgomibimcaa
