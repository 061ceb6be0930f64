/- Layer 4: the document's Sort of rows. Condition: rows that lie in memory that is there; no more than a million. -/
import Derived.Test.YtklhledcnijchaaDoorCount
import Derived.Test.YtklhledcnijchaaDoorOrd6
import Derived.Test.YtklhledcnijchaaDoorTab10
import Derived.Deep.CutBlock
import Derived.Deep.DeepCutAuto
namespace Go.Proofs.YtklhledcnijchaaDoor
open Go.RowKit
attribute [local go_sem] more_cell more_frozen more_more more_setCell more_of_drew more_of_drewN lt_more le_more past_cell past_cell2 past_frozen past_frozen2 past_setCell past_setCell2 mid_cell mid_frozen mid_setCell
attribute [local go_sem ↓] Go.wp_at_zero Go.wp_at_succ

/-- The rows in order are handed back. -/
def SortF (w : World) (l : List (List Vl)) (e : Ending) (w' : World) : Prop := ∃ A k, e = .returned (.slice A l.length k) ∧ Grew w w' ∧ RwsR (PRow w') A (sortR l)
theorem sortR_len (l : List (List Vl)) : (sortR l).length = l.length := (sortR_perm l).length_eq
def StAt (w : World) (l : List (List Vl)) (v i : Value) (wr : World) : Prop :=
  ∃ (j : Nat) (S : Option Addr) (c : Nat) (css : List (List Value)), j ≤ l.length ∧ i = .int .i64 j ∧ v = .slice S j c ∧ Grew w wr ∧ wr.ownsRow w.heap.size 22 1 (.slice S j c) j css.flatten ∧ ListR (RwR (PRow w)) 1 (sortR (l.take j)) css
def InAt (w : World) (out : List (List Vl)) (x : List Vl) (j : Nat) (i : Value) (wr : World) : Prop := ∃ n : Nat, n ≤ j ∧ i = .int .i64 n ∧ insK out x j = insK out x n ∧ Grew w wr
theorem ListR.front {α : Type} {R : α → List Value → Prop} {size : Nat} {x : α} {cs : List Value} (h : R x cs) (hs : cs.length = size) : ListR R size [x] [cs] := ⟨rfl, fun i y ds h1 h2 => by
  rcases i with _ | i
  · simp only [List.getElem?_cons_zero, Option.some.injEq] at h1 h2
    subst h1 h2
    exact ⟨h, hs⟩
  · simp at h1⟩
theorem own_rowS {w : World} {base n c : Nat} {A : Option Addr} {e : TypeId} {xs : List Value} (h : w.ownsRow base e 1 (.slice A n c) n xs) : Row w A xs := by
  obtain ⟨A', c', he, hr⟩ := own_row h
  injection he with h1 h2 h3
  rw [h1]
  exact hr
set_option maxHeartbeats 8000000 in
set_option maxRecDepth 100000 in
theorem rsort_any (l : List (List Vl)) (hl : RwsOk l) (hm : l.length ≤ 1000000) (hz : ∀ r ∈ l, ∀ v ∈ r, v.s.size ≤ maxLen) (A : Option Addr) (k : Nat) (w : World) (ra : RwsR (PRow w) A l) :
    Calls Tryd.prog 25 #[.slice A l.length k] w (SortF w l) := by
  have RA := Lib.hid ra
  have HO := Lib.hid hl.2
  have HZ := Lib.hid hz
  clear ra hl hz
  go_enter Tryd.func25, Tryd.ntmps25
  go_wp2
  go_loopw [3, 4] (fun v i wr => StAt w l v i wr) (fun _ i _ => l.length - (intOf i).toNat)
  case atStart => exact ⟨0, none, 0, [], Nat.zero_le _, rfl, rfl, Grew.refl w, own_none w _ _ 1, by rw [List.take_zero]; exact ListR.nil⟩
  case round =>
    obtain ⟨j, S, c, css, hj, rfl, rfl, hg, ho, hls⟩ := hrel
    obtain ⟨wo, rfl⟩ : ∃ wo : World, wo = wr := ⟨_, rfl⟩
    have HG := Lib.hid hg
    have HOw := Lib.hid ho
    have HLs := Lib.hid hls
    clear hg ho hls
    by_cases h : j < l.length
    · have hji : (j : Int) < (l.length : Int) := by omega
      have e0 : decide ((j : Int) < (l.length : Int)) = true := decide_eq_true hji
      obtain ⟨lb, lo, PX, kx, rfl, hlb, lc0, hkx, hvx⟩ := rwsR_at RA.out h
      have HCl : Hid (∀ W, Grew w W → W.cell? ⟨lb, lo + j, none⟩ = some (.slice PX l[j].length kx)) := Lib.hid fun W hW => (hW.cell (a := ⟨lb, lo + j, none⟩) hlb).trans lc0
      have HVx := Lib.hid hvx
      have hxl := (HO.out _ (List.getElem_mem h)).1
      have HSt : Hid (sortR (l.take (j + 1)) = insR (sortR (l.take j)) l[j]) := Lib.hid (by rw [List.take_succ_eq_append_getElem h, sortR_snoc])
      have HRx : Hid (RwR (PRow w) l[j] [.slice PX l[j].length kx]) := Lib.hid ⟨PX, kx, rfl, hkx, hvx⟩
      have hol : (sortR (l.take j)).length = j := by rw [sortR_len, List.length_take]; omega
      have HOut : Hid (∀ W, Grew wo W → RwsR (PRow W) S (sortR (l.take j))) := Lib.hid fun W hW => ⟨css, HLs.out.map fun x cs hx => hx.imp fun _ _ _ h => h.grew (HG.out.trans hW), (own_rowS HOw.out).grew hW⟩
      have HOutOk : Hid (∀ r ∈ sortR (l.take j), r.length ≤ 140737488355328 ∧ ∀ v ∈ r, v.s.size ≤ maxLen) := Lib.hid fun r hr => by
        have hr2 : r ∈ l := List.mem_of_mem_take ((sortR_perm _).mem_iff.1 hr)
        exact ⟨(HO.out r hr2).1, HZ.out r hr2⟩
      have hlw : lb < w.heap.size := hlb
      clear lc0 hvx hkx hlb
      generalize l[j] = x at *
      generalize sortR (l.take j) = out at *
      have HGw : Hid (w.heap.size ≤ wo.heap.size) := Lib.hid HG.out.size
      go_upto_block 2 with fail
      go_cut [5] (fun p wx => p = .int .i64 (insK out x j : Nat) ∧ Grew wo wx)
      case first =>
        go_wp2_with fail
        go_loopw [5] (fun i wx => InAt wo out x j i wx) (fun i _ => (intOf i).toNat)
        case atStart => exact ⟨j, Nat.le_refl _, rfl, rfl, Grew.refl wo⟩
        case round =>
          obtain ⟨n, hn, rfl, hin, hgi⟩ := hrel
          have HIn := Lib.hid hin
          have HGi := Lib.hid hgi
          clear hin hgi
          by_cases h0 : n = 0
          · have e1 : decide ((0 : Int) < (n : Int)) = false := decide_eq_false (by omega)
            have e1n : decide (0 < n) = false := decide_eq_false (by omega)
            have HE : Hid (insK out x j = n) := Lib.hid (by rw [HIn.out, h0]; rfl)
            clear h0 HIn
            go_upto_region 6 with fail
            refine wp_region_S (fun W => Grew wr W) (by kernel_rfl) ?_
            refine held_take 0 (v := ?_) rfl (by kernel_rfl) (by kernel_rfl) (by kernel_rfl) (fun _ _ _ h => h) (by rfl) ?_ (Grew.refl wr).drew ?_
            rotate_left
            · (intro W hW; go_simp; with_reducible rfl)
            refine held_take 1 (v := ?_) rfl (by kernel_rfl) (by kernel_rfl) (by kernel_rfl) (fun _ _ _ h => h) (by rfl) ?_ (Grew.refl wr).drew ?_
            rotate_left
            · (intro W hW; go_simp; with_reducible rfl)
            refine held_take 2 (v := ?_) rfl (by kernel_rfl) (by kernel_rfl) (by kernel_rfl) (fun _ _ _ h => h) (by rfl) ?_ (Grew.refl wr).drew ?_
            rotate_left
            · (intro W hW; go_simp; with_reducible rfl)
            refine held_norm (a' := ?_) ?_ ?_
            rotate_left
            · (go_simp; with_reducible rfl)
            refine held_skip 3 rfl (by kernel_rfl) (by kernel_rfl) (by kernel_rfl) (fun _ _ _ h => h) (by rfl) (Grew.refl wr).drew ?_
            refine held_norm (a' := ?_) ?_ ?_
            rotate_left
            · (go_simp; with_reducible rfl)
            refine held_skip 4 rfl (by kernel_rfl) (by kernel_rfl) (by kernel_rfl) (fun _ _ _ h => h) (by rfl) (Grew.refl wr).drew ?_
            refine held_norm (a' := ?_) ?_ ?_
            rotate_left
            · (go_simp; with_reducible rfl)
            refine held_skip 5 rfl (by kernel_rfl) (by kernel_rfl) (by kernel_rfl) (fun _ _ _ h => h) (by rfl) (Grew.refl wr).drew ?_
            refine held_norm (a' := ?_) ?_ ?_
            rotate_left
            · (go_simp; with_reducible rfl)
            refine held_skip 6 rfl (by kernel_rfl) (by kernel_rfl) (by kernel_rfl) (fun _ _ _ h => h) (by rfl) (Grew.refl wr).drew ?_
            refine held_norm (a' := ?_) ?_ ?_
            rotate_left
            · (go_simp; with_reducible rfl)
            refine held_skip 7 rfl (by kernel_rfl) (by kernel_rfl) (by kernel_rfl) (fun _ _ _ h => h) (by rfl) (Grew.refl wr).drew ?_
            refine held_norm (a' := ?_) ?_ ?_
            rotate_left
            · (go_simp; with_reducible rfl)
            refine held_skip 8 rfl (by kernel_rfl) (by kernel_rfl) (by kernel_rfl) (fun _ _ _ h => h) (by rfl) (Grew.refl wr).drew ?_
            refine held_norm (a' := ?_) ?_ ?_
            rotate_left
            · (go_simp; with_reducible rfl)
            refine held_skip 9 rfl (by kernel_rfl) (by kernel_rfl) (by kernel_rfl) (fun _ _ _ h => h) (by rfl) (Grew.refl wr).drew ?_
            refine held_norm (a' := ?_) ?_ ?_
            rotate_left
            · (go_simp; with_reducible rfl)
            refine held_skip 10 rfl (by kernel_rfl) (by kernel_rfl) (by kernel_rfl) (fun _ _ _ h => h) (by rfl) (Grew.refl wr).drew ?_
            refine held_norm (a' := ?_) ?_ ?_
            rotate_left
            · (go_simp; with_reducible rfl)
            refine held_skip 11 rfl (by kernel_rfl) (by kernel_rfl) (by kernel_rfl) (fun _ _ _ h => h) (by rfl) (Grew.refl wr).drew ?_
            refine held_norm (a' := ?_) ?_ ?_
            rotate_left
            · (go_simp; with_reducible rfl)
            refine held_skip 12 rfl (by kernel_rfl) (by kernel_rfl) (by kernel_rfl) (fun _ _ _ h => h) (by rfl) (Grew.refl wr).drew ?_
            refine held_norm (a' := ?_) ?_ ?_
            rotate_left
            · (go_simp; with_reducible rfl)
            refine held_skip 13 rfl (by kernel_rfl) (by kernel_rfl) (by kernel_rfl) (fun _ _ _ h => h) (by rfl) (Grew.refl wr).drew ?_
            refine held_norm (a' := ?_) ?_ ?_
            rotate_left
            · (go_simp; with_reducible rfl)
            refine held_take 14 (v := ?_) rfl (by kernel_rfl) (by kernel_rfl) (by kernel_rfl) (fun _ _ _ h => h) (by rfl) ?_ (Grew.refl wr).drew ?_
            rotate_left
            · (intro W hW; go_simp; with_reducible rfl)
            refine held_norm (a' := ?_) ?_ ?_
            rotate_left
            · (go_simp; with_reducible rfl)
            refine held_done (by kernel_rfl) ?_
            have HGd : Hid (Grew wo wr.drew) := Lib.hid HGi.out.drew
            go_wp2
            go_meet
            exact ⟨by rw [HE.out], HGd.out⟩
          · obtain ⟨p, hp⟩ : ∃ p, n = p + 1 := ⟨n - 1, by omega⟩
            have e1 : decide ((0 : Int) < (n : Int)) = true := decide_eq_true (by omega)
            have e1n : decide (0 < n) = true := decide_eq_true (by omega)
            have hpo : p < out.length := by omega
            obtain ⟨sb, so, PS, ks, rfl, hsb, s0, _, hvs⟩ := rwsR_at (HOut.out wr HGi.out) hpo
            obtain ⟨hyl, hyz⟩ := HOutOk.out _ (List.getElem_mem hpo)
            have hw1 : IntKind.i64.wrap ((n : Int) - 1) = (p : Int) := by rw [IntWalk.i64_in _ (by omega)]; omega
            have x0 := HCl.out wr (HG.out.trans HGi.out)
            have hlb2 : lb < wr.heap.size := Nat.lt_of_lt_of_le hlw (HG.out.trans HGi.out).size
            have HC : Hid (Gives Tryd.prog 14 #[.slice PS out[p].length ks, .slice PX x.length kx] wr.drew (.int .i64 (ordRow out[p] x))) := Lib.hid (rrowsOrder_any out[p] x PS PX ks kx hyl hyz _ (hvs.grew (Grew.refl wr).drew) (HVx.out.grew (HG.out.trans HGi.out).drew))
            have HI2 : Hid (insK out x n = if 0 < ordRow out[p] x then insK out x p else n) := Lib.hid (by
              rw [hp]
              show (if 0 < ordRow (out.getD p []) x then insK out x p else p + 1) = _
              rw [List.getD_eq_getElem?_getD, List.getElem?_eq_getElem hpo, Option.getD_some])
            have HP := Lib.hid hp
            clear hp hvs hyz HOut HOutOk HVx
            generalize hoo : ordRow out[p] x = oo at *
            generalize out[p] = y at *
            clear hoo
            have hpi : (p : Int) < (j : Int) := by omega
            have hpn0 : p < j := by omega
            have hjl0 : j < l.length := h
            have HCs : Hid (∀ W, Grew wr W → W.cell? ⟨sb, so + p, none⟩ = some (.slice PS y.length ks) ∧ W.cell? ⟨lb, lo + j, none⟩ = some (.slice PX x.length kx)) := Lib.hid fun W hW => ⟨(hW.cell (a := ⟨sb, so + p, none⟩) hsb).trans s0, (hW.cell (a := ⟨lb, lo + j, none⟩) hlb2).trans x0⟩
            clear s0 x0
            go_upto_region 6 with fail
            refine wp_region_S (fun W => Grew wr W) (by kernel_rfl) ?_
            refine held_take 0 (v := ?_) rfl (by kernel_rfl) (by kernel_rfl) (by kernel_rfl) (fun _ _ _ h => h) (by rfl) ?_ (Grew.refl wr).drew ?_
            rotate_left
            · (intro W hW; go_simp; with_reducible rfl)
            refine held_take 1 (v := ?_) rfl (by kernel_rfl) (by kernel_rfl) (by kernel_rfl) (fun _ _ _ h => h) (by rfl) ?_ (Grew.refl wr).drew ?_
            rotate_left
            · (intro W hW; go_simp; with_reducible rfl)
            refine held_take 2 (v := ?_) rfl (by kernel_rfl) (by kernel_rfl) (by kernel_rfl) (fun _ _ _ h => h) (by rfl) ?_ (Grew.refl wr).drew ?_
            rotate_left
            · (intro W hW; go_simp; with_reducible rfl)
            refine held_norm (a' := ?_) ?_ ?_
            rotate_left
            · (go_simp; with_reducible rfl)
            refine held_take 3 (v := ?_) rfl (by kernel_rfl) (by kernel_rfl) (by kernel_rfl) (fun _ _ _ h => h) (by rfl) ?_ (Grew.refl wr).drew ?_
            rotate_left
            · (intro W hW; go_simp; with_reducible rfl)
            refine held_take 4 (v := ?_) rfl (by kernel_rfl) (by kernel_rfl) (by kernel_rfl) (fun _ _ _ h => h) (by rfl) ?_ (Grew.refl wr).drew ?_
            rotate_left
            · (intro W hW; go_simp; with_reducible rfl)
            refine held_take 5 (v := ?_) rfl (by kernel_rfl) (by kernel_rfl) (by kernel_rfl) (fun _ _ _ h => h) (by rfl) ?_ (Grew.refl wr).drew ?_
            rotate_left
            · (intro W hW; go_simp; with_reducible rfl)
            refine held_norm (a' := ?_) ?_ ?_
            rotate_left
            · (go_simp; with_reducible rfl)
            refine held_take 6 (v := ?_) rfl (by kernel_rfl) (by kernel_rfl) (by kernel_rfl) (fun _ _ _ h => h) (by rfl) ?_ (Grew.refl wr).drew ?_
            rotate_left
            · (intro W hW; go_simp; with_reducible rfl)
            refine held_norm (a' := ?_) ?_ ?_
            rotate_left
            · (go_simp; with_reducible rfl)
            refine held_take 7 (v := ?_) rfl (by kernel_rfl) (by kernel_rfl) (by kernel_rfl) (fun _ _ _ h => h) (by rfl) ?_ (Grew.refl wr).drew ?_
            rotate_left
            · (intro W hW; obtain ⟨s0, x0⟩ := HCs.out W hW; go_simp; with_reducible rfl)
            refine held_norm (a' := ?_) ?_ ?_
            rotate_left
            · (go_simp; with_reducible rfl)
            refine held_take 8 (v := ?_) rfl (by kernel_rfl) (by kernel_rfl) (by kernel_rfl) (fun _ _ _ h => h) (by rfl) ?_ (Grew.refl wr).drew ?_
            rotate_left
            · (intro W hW; go_simp; with_reducible rfl)
            refine held_take 9 (v := ?_) rfl (by kernel_rfl) (by kernel_rfl) (by kernel_rfl) (fun _ _ _ h => h) (by rfl) ?_ (Grew.refl wr).drew ?_
            rotate_left
            · (intro W hW; go_simp; with_reducible rfl)
            refine held_norm (a' := ?_) ?_ ?_
            rotate_left
            · (go_simp; with_reducible rfl)
            refine held_take 10 (v := ?_) rfl (by kernel_rfl) (by kernel_rfl) (by kernel_rfl) (fun _ _ _ h => h) (by rfl) ?_ (Grew.refl wr).drew ?_
            rotate_left
            · (intro W hW; go_simp; with_reducible rfl)
            refine held_norm (a' := ?_) ?_ ?_
            rotate_left
            · (go_simp; with_reducible rfl)
            refine held_take 11 (v := ?_) rfl (by kernel_rfl) (by kernel_rfl) (by kernel_rfl) (fun _ _ _ h => h) (by rfl) ?_ (Grew.refl wr).drew ?_
            rotate_left
            · (intro W hW; obtain ⟨s0, x0⟩ := HCs.out W hW; go_simp; with_reducible rfl)
            refine held_norm (a' := ?_) ?_ ?_
            rotate_left
            · (go_simp; with_reducible rfl)
            refine held_call 12 (by kernel_rfl) rfl (by rfl) (fun K hK => ?_)
            go_simp
            go_wp2_with (go_at_call 14; (with_reducible refine HC.out.grows.mono ?_); rintro e w2 ⟨rfl, hg2⟩; have HG2 := Lib.hid (show Grew wr w2 from ((Grew.refl wr).drew).trans hg2); clear hg2)
            refine hK.out _ _ HG2.out ?_
            clear hK K
            refine held_take 13 (v := ?_) rfl (by kernel_rfl) (by kernel_rfl) (by kernel_rfl) (fun _ _ _ h => h) (by rfl) ?_ HG2.out ?_
            rotate_left
            · (intro W hW; go_simp; with_reducible rfl)
            refine held_norm (a' := ?_) ?_ ?_
            rotate_left
            · (go_simp; with_reducible rfl)
            refine held_take 14 (v := ?_) rfl (by kernel_rfl) (by kernel_rfl) (by kernel_rfl) (fun _ _ _ h => h) (by rfl) ?_ HG2.out ?_
            rotate_left
            · (intro W hW; go_simp; with_reducible rfl)
            refine held_norm (a' := ?_) ?_ ?_
            rotate_left
            · (go_simp; with_reducible rfl)
            refine held_done (by kernel_rfl) ?_
            have HG3 := Lib.hid (HGi.out.trans HG2.out)
            clear HG2 HCs HC
            by_cases hc : 0 < oo
            · have e2 : decide ((0 : Int) < oo) = true := decide_eq_true hc
              rw [if_pos hc] at HI2
              have hpn : p < n := by rw [HP.out]; omega
              have hpj : p ≤ j := by omega
              go_wp2
              exact ⟨⟨p, hpj, rfl, by rw [HIn.out, HI2.out], HG3.out⟩, by simp only [intOf]; omega⟩
            · have e2 : decide ((0 : Int) < oo) = false := decide_eq_false hc
              rw [if_neg hc] at HI2
              go_wp2
              go_meet
              exact ⟨by rw [HIn.out, HI2.out], HG3.out⟩
      case rest =>
        obtain ⟨rfl, hwc⟩ := hcut
        have HGc := Lib.hid hwc
        have HGwc := Lib.hid (HG.out.trans hwc)
        have hq := insK_le out x j
        have HIns : Hid (sortR (l.take (j + 1)) = out.take (insK out x j) ++ x :: out.drop (insK out x j)) := Lib.hid (by rw [HSt.out]; unfold insR; rw [hol])
        clear hwc HSt HOut HOutOk HVx
        generalize insK out x j = q at *
        have hf := flat_one css HLs.out.all
        have hcl : css.flatten.length = j := by rw [HLs.out.flat, hol, Nat.mul_one]
        have HF : Hid (∀ A3 c3 w3, w3.ownsRow w.heap.size 22 1 (.slice A3 (j + 1) c3) (j + 1) (css.flatten.take q ++ [.slice PX x.length kx] ++ css.flatten.drop q) → Grew w w3 → StAt w l (.slice A3 (j + 1) c3) (.int .i64 ((j : Int) + 1)) w3) := Lib.hid fun A3 c3 w3 h1 h2 => by
          refine ⟨j + 1, A3, c3, css.take q ++ [[.slice PX x.length kx]] ++ css.drop q, by omega, by go_num, rfl, h2, ?_, ?_⟩
          · rw [List.flatten_append, List.flatten_append, (hf q).1, (hf q).2]
            exact h1
          · rw [HIns.out, List.append_cons]
            exact ((HLs.out.take q).append (ListR.front HRx.out rfl)).append (HLs.out.drop q)
        have HOne : Hid (∀ u ∈ css.flatten, u.oneCell' = true) := Lib.hid (HLs.out.one _ fun x cs hx => rwR_one hx)
        have HRow : Hid (Row wc S css.flatten) := Lib.hid ((own_rowS HOw.out).grew HGc.out)
        have HOw2 := Lib.hid HOw.out.2
        have hx0 := HCl.out wc HGwc.out
        clear HLs HIns hf HOw
        generalize css.flatten = M at *
        have HM1 : Hid ((M.take q).length = q) := Lib.hid (by rw [List.length_take]; omega)
        have HM2 : Hid ((M.drop q).length = j - q) := Lib.hid (by rw [List.length_drop]; omega)
        have HO1 : Hid (∀ u ∈ M.take q, u.oneCell' = true) := Lib.hid fun u hu => HOne.out u (List.mem_of_mem_take hu)
        have HO2 : Hid (∀ u ∈ M.drop q, u.oneCell' = true) := Lib.hid fun u hu => HOne.out u (List.mem_of_mem_drop hu)
        have HR1 := Lib.hid (row_take HRow.out q)
        have HGb : Hid (w.heap.size ≤ wc.heap.size) := Lib.hid HGwc.out.size
        rcases HOw2.out with ⟨hS, hj0⟩ | ⟨g, cap, cur, hS, hbg, hcur, hcap, hmax, hsz, htk⟩
        · injection hS with hS1 _ hS2
          subst hS1 hS2 hj0
          obtain rfl : q = 0 := by omega
          obtain rfl : M = [] := List.eq_nil_of_length_eq_zero hcl
          simp only [List.take_nil, List.drop_nil, List.nil_append, List.append_nil, Nat.zero_add] at HF
          have hz1 : ((0 : Nat) : Int) + 1 = 1 := rfl
          rw [hz1] at HF
          rw [Nat.add_zero] at hx0
          clear HOw2 HR1 HO1 HO2 HM1 HM2 hcl hz1
          go_wp2_with (first | (at_builtin; refine wpList_apps rfl (.tmp 32) (.tmp 35) 24 22 1 rfl wc (.slice none 0 0) 24 Tryd.underlying24 infoRw rfl (by decide) (by decide) _ 0 [] rfl (own_empty wc wc.heap.size _ _ _ rfl (Nat.le_refl _)) none 0 0 [] rfl rfl (Or.inl rfl) (by simp) (by omega) ((Grew.refl wc).alloc _) ?_; intro A1 c1 w1 ho _ hg _ _; rw [Nat.zero_add] at ho ⊢; rw [List.nil_append] at ho; have HO11 := Lib.hid ho; have HG11 := Lib.hid hg; have hx1 := HCl.out w1 (HGwc.out.trans hg); have hlb1 : lb < w1.heap.size := Nat.lt_of_lt_of_le hlw (HGwc.out.trans hg).size; rw [Nat.add_zero] at hx1; clear ho hg) | (at_builtin; refine wpList_apps rfl (.tmp 37) (.tmp 42) 24 22 1 rfl wc (.slice none 0 0) 24 Tryd.underlying24 infoRw rfl (by decide) (by decide) _ 0 [] rfl (own_alloc HO11.out _) _ 1 1 [.slice PX x.length kx] rfl rfl (row_new _ _ _ _ rfl) (by simp [Value.oneCell']) (by omega) (HG11.out.alloc _) ?_; intro A2 c2 w2 ho _ hg _ _; rw [Nat.zero_add, List.nil_append] at ho; have HO12 := Lib.hid ho; have HG12 := Lib.hid hg; clear ho hg) | (at_builtin; refine wpList_apps rfl (.tmp 44) (.tmp 47) 24 22 1 rfl wc (.slice none 0 0) 24 Tryd.underlying24 infoRw rfl (by decide) (by decide) _ 1 [.slice PX x.length kx] rfl HO12.out none 0 0 [] rfl rfl (Or.inl rfl) (by simp) (by omega) HG12.out ?_; intro A3 c3 w3 ho _ hg _ _; rw [Nat.add_zero, List.append_nil] at ho; have HX := Lib.hid (HF.out A3 c3 w3 (own_le ho HGb.out) (HGwc.out.trans hg)); clear ho hg))
          exact ⟨HX.out, by simp only [intOf]; omega⟩
        · injection hS with hS1 _ hS2
          subst hS1 hS2
          clear HOw2 hbg hcur hmax hsz htk
          have hqi : (q : Int) ≤ (j : Int) := by omega
          have hqc0 : q ≤ c := by omega
          by_cases hqc : q = c
          · have hjc : j = c := by omega
            have hM2 : M.drop q = [] := List.eq_nil_of_length_eq_zero (by rw [HM2.out]; omega)
            rw [hM2] at HF
            rw [List.append_nil] at HF
            have hqj : q = j := by omega
            subst hqc
            subst hqj
            clear hM2 HO2 HM2 HR1
            have HR1 := Lib.hid HRow.out
            have HMt : Hid (M.take q = M) := Lib.hid (List.take_of_length_le (Nat.le_of_eq hcl))
            rw [HMt.out] at HF HO1
            clear HM1 HMt
            have HM1 := Lib.hid hcl
            go_wp2_with (first | (at_builtin; refine wpList_apps rfl (.tmp 32) (.tmp 35) 24 22 1 rfl wc (.slice none 0 0) 24 Tryd.underlying24 infoRw rfl (by decide) (by decide) _ 0 [] rfl (own_empty wc wc.heap.size _ _ _ rfl (Nat.le_refl _)) (some ⟨g, 0, none⟩) q q M rfl (by rw [HM1.out, Nat.mul_one]) (HR1.out.grew ((Grew.refl wc).alloc _)) HO1.out (by omega) ((Grew.refl wc).alloc _) ?_; intro A1 c1 w1 ho _ hg _ _; rw [Nat.zero_add] at ho ⊢; rw [List.nil_append] at ho; have HO11 := Lib.hid ho; have HG11 := Lib.hid hg; have hx1 := HCl.out w1 (HGwc.out.trans hg); have hlb1 : lb < w1.heap.size := Nat.lt_of_lt_of_le hlw (HGwc.out.trans hg).size; clear ho hg) | (at_builtin; refine wpList_apps rfl (.tmp 37) (.tmp 42) 24 22 1 rfl wc (.slice none 0 0) 24 Tryd.underlying24 infoRw rfl (by decide) (by decide) _ q M rfl (own_alloc HO11.out _) _ 1 1 [.slice PX x.length kx] rfl rfl (row_new _ _ _ _ rfl) (by simp [Value.oneCell']) (by omega) (HG11.out.alloc _) ?_; intro A2 c2 w2 ho _ hg _ _; have HO12 := Lib.hid ho; have HG12 := Lib.hid hg; clear ho hg) | (at_builtin; refine wpList_apps rfl (.tmp 44) (.tmp 47) 24 22 1 rfl wc (.slice none 0 0) 24 Tryd.underlying24 infoRw rfl (by decide) (by decide) _ (q + 1) (M ++ [Value.slice PX x.length kx]) rfl HO12.out (some ⟨g, 0, none⟩) 0 0 [] rfl rfl (Or.inl rfl) (by simp) (by omega) HG12.out ?_; intro A3 c3 w3 ho _ hg _ _; rw [Nat.add_zero, List.append_nil] at ho; rw [Nat.add_zero]; have HX := Lib.hid (HF.out A3 c3 w3 (own_le ho HGb.out) (HGwc.out.trans hg)); clear ho hg))
            exact ⟨HX.out, by simp only [intOf]; omega⟩
          · have hqc2 : q < c := by omega
            have HR2 := Lib.hid (row_drop HRow.out q)
            rw [Nat.zero_add] at HR2
            have hjq : q + 1 + (j - q) = j + 1 := by omega
            obtain ⟨m2, hm2⟩ : ∃ m2, j - q = m2 := ⟨_, rfl⟩
            rw [hm2] at HM2 hjq
            have hsub : IntKind.i64.wrap ((j : Int) - (q : Int)) = (m2 : Int) := by rw [IntWalk.i64_in _ (by omega)]; omega
            clear hcl
            generalize M.take q = M1 at *
            generalize M.drop q = M2 at *
            go_wp2_with (first | (at_builtin; refine wpList_apps rfl (.tmp 32) (.tmp 35) 24 22 1 rfl wc (.slice none 0 0) 24 Tryd.underlying24 infoRw rfl (by decide) (by decide) _ 0 [] rfl (own_empty wc wc.heap.size _ _ _ rfl (Nat.le_refl _)) (some ⟨g, 0, none⟩) q c M1 rfl (by rw [HM1.out, Nat.mul_one]) (HR1.out.grew ((Grew.refl wc).alloc _)) HO1.out (by omega) ((Grew.refl wc).alloc _) ?_; intro A1 c1 w1 ho _ hg _ _; rw [Nat.zero_add] at ho ⊢; rw [List.nil_append] at ho; have HO11 := Lib.hid ho; have HG11 := Lib.hid hg; have hx1 := HCl.out w1 (HGwc.out.trans hg); have hlb1 : lb < w1.heap.size := Nat.lt_of_lt_of_le hlw (HGwc.out.trans hg).size; clear ho hg) | (at_builtin; refine wpList_apps rfl (.tmp 37) (.tmp 42) 24 22 1 rfl wc (.slice none 0 0) 24 Tryd.underlying24 infoRw rfl (by decide) (by decide) _ q M1 rfl (own_alloc HO11.out _) _ 1 1 [.slice PX x.length kx] rfl rfl (row_new _ _ _ _ rfl) (by simp [Value.oneCell']) (by omega) (HG11.out.alloc _) ?_; intro A2 c2 w2 ho _ hg _ _; have HO12 := Lib.hid ho; have HG12 := Lib.hid hg; clear ho hg) | (at_builtin; refine wpList_apps rfl (.tmp 44) (.tmp 47) 24 22 1 rfl wc (.slice none 0 0) 24 Tryd.underlying24 infoRw rfl (by decide) (by decide) _ (q + 1) (M1 ++ [Value.slice PX x.length kx]) rfl HO12.out (some ⟨g, q, none⟩) m2 (c - q) M2 rfl (by rw [HM2.out, Nat.mul_one]) (HR2.out.grew HG12.out) HO2.out (by omega) HG12.out ?_; intro A3 c3 w3 ho _ hg _ _; rw [hjq] at ho ⊢; have HX := Lib.hid (HF.out A3 c3 w3 (own_le ho HGb.out) (HGwc.out.trans hg)); clear ho hg))
            exact ⟨HX.out, by simp only [intOf]; omega⟩
    · obtain rfl : j = l.length := by omega
      rw [List.take_length] at HLs
      have HFin : Hid (RwsR (PRow wo) S (sortR l)) := Lib.hid ⟨css, HLs.out.map fun x cs hx => hx.imp fun _ _ _ h => h.grew HG.out, own_rowS HOw.out⟩
      clear HLs HOw
      go_wp2
      go_ret
      exact ⟨S, c, rfl, HG.out, HFin.out⟩
end Go.Proofs.YtklhledcnijchaaDoor
