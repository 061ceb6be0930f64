/- Layer 14: the law of aggregates of values that were parted. Condition: values that lie in memory that is there, no part beyond the reach. -/
import Derived.Test.YtddambfniaiogaaLawAgg
import Derived.Test.YtddambfniaiogaaMerge
import Derived.Test.YtddambfniaiogaaCopyIn
import Derived.Deep.DeepCutAuto
import Derived.Deep.RegionWith
namespace Go.Proofs.Ytddambfniaiogaa
open Go.RowKit
attribute [local go_sem] more_cell more_frozen more_more more_setCell more_of_drew more_of_drewN lt_more le_more past_cell past_cell2 past_frozen past_frozen2 past_setCell past_setCell2 mid_cell mid_frozen mid_setCell
attribute [local go_sem ↓] Go.wp_at_zero Go.wp_at_succ

theorem rws_two {W : World} {g : Nat} {A B : Option Addr} {a b : List Vl} {k j : Nat} (h : Row W (some ⟨g, 0, none⟩) [.slice A a.length k, .slice B b.length j]) (hk : a.length ≤ k) (hj : b.length ≤ j) (h2 : VlsR (PRow W) A a) (h3 : VlsR (PRow W) B b) : RwsR (PRow W) (some ⟨g, 0, none⟩) [a, b] :=
  ⟨[[.slice A a.length k], [.slice B b.length j]], ⟨rfl, fun i x cs hi hd => by
    rcases i with _ | _ | i
    · simp only [List.getElem?_cons_zero, Option.some.injEq] at hi hd
      subst hi hd
      exact ⟨⟨A, k, rfl, hk, h2⟩, rfl⟩
    · simp only [List.getElem?_cons_zero, List.getElem?_cons_succ, Option.some.injEq] at hi hd
      subst hi hd
      exact ⟨⟨B, j, rfl, hj, h3⟩, rfl⟩
    · simp at hi⟩, by simpa [PRow] using h⟩
def XAt (u : World) (op : Int) (a : List Vl) (d0 : AccS) (g : Nat) (i : Value) (wr : World) : Prop :=
  ∃ j : Nat, j ≤ a.length ∧ i = .int .i64 j ∧ Blok wr g 58 (accC (accL op (a.take j))) ∧ Blok wr (g + 1) 58 (accC d0) ∧ Grew u wr
def YAt (u : World) (op : Int) (b : List Vl) (dx : AccS) (g : Nat) (i : Value) (wr : World) : Prop :=
  ∃ q : Nat, q ≤ b.length ∧ i = .int .i64 ((q : Int) - 1) ∧ Blok wr (g + 1) 58 (accC (accL op ((b.drop q).reverse))) ∧ Blok wr g 58 (accC dx) ∧ Grew u wr
theorem vl_one (l : List Vl) {css : List (List Value)} (h : ListR VlR 3 l css) : ∀ u ∈ css.flatten, u.oneCell' = true := by
  intro u hu
  obtain ⟨cs, hc, hu⟩ := List.mem_flatten.1 hu
  obtain ⟨i, hi, rfl⟩ := List.getElem_of_mem hc
  have hl : i < l.length := by rw [← h.1]; exact hi
  have := (h.2 i l[i] css[i] (List.getElem?_eq_getElem hl) (List.getElem?_eq_getElem hi)).1
  unfold VlR at this
  rw [this] at hu
  simp only [List.mem_cons, List.not_mem_nil, or_false] at hu
  rcases hu with rfl | rfl | rfl <;> rfl
set_option maxHeartbeats 8000000 in
set_option maxRecDepth 100000 in
theorem aggMerges_walk (op : Int) (a b : List Vl) (A B : Option Addr) (k j : Nat) (other : Int) (w : World) (ha : RwOk a) (hb : RwOk b) (hk : a.length ≤ k) (hj : b.length ≤ j) (ra : VlsR (PRow w) A a) (rb : VlsR (PRow w) B b) :
    Gives Try.prog 7 #[.int .i64 op, .slice A a.length k, .slice B b.length j, .int .i64 other] w (.bool true) := by
  have HM : Hid (Calls Try.prog 30 #[.slice (some ⟨w.heap.size, 0, none⟩) 2 2] (w.alloc (.cells #[.slice A a.length k, .slice B b.length j] 46)) (MuchR (w.alloc (.cells #[.slice A a.length k, .slice B b.length j] 46)) (goodRws [a, b]))) := Lib.hid
    (much4_any [a, b] ⟨by simp, by intro r hr; simp only [List.mem_cons, List.not_mem_nil, or_false] at hr; rcases hr with rfl | rfl; exact ha; exact hb⟩ (some ⟨w.heap.size, 0, none⟩) 2 _ (rws_two (row_new w _ _ _ rfl) hk hj (ra.grew ((Grew.refl w).alloc _)) (rb.grew ((Grew.refl w).alloc _))))
  have HGo : Hid (goodRws [a, b] → a.length ≤ 40 ∧ b.length ≤ 40) := Lib.hid fun h => ⟨h.2.1 a (by simp), h.2.1 b (by simp)⟩
  have RA := Lib.hid ra
  have RB := Lib.hid rb
  have HOA := Lib.hid ha
  have HOB := Lib.hid hb
  obtain ⟨⟨⟨vk, vi, vs⟩, f⟩, hv⟩ : ∃ p, tellS op (a ++ b) = p := ⟨_, rfl⟩
  have hpm : defS op (b ++ a) = defS op (a ++ b) := defS_perm List.perm_append_comm
  have hry : accL op b.reverse = defS op b := by rw [accL_def, defS_perm (List.reverse_perm b)]
  have HRY := Lib.hid hry
  have HFx0 : Hid (a.length ≤ 40 → ∀ j (h : j < a.length) W, Gives Try.prog 36 #[accV (accL op (a.take j)), vlV a[j]] W (accV (accL op (a.take (j + 1))))) := Lib.hid fun hl j h W => by
    rw [accL_take h]
    have hb := accL_bounds op (a.take j)
    have hlt : (a.take j).length ≤ a.length := by rw [List.length_take]; omega
    exact feed_any _ _ (by omega) (by omega) (by omega) (isI_of_wf (ha.2 _ (List.getElem_mem h)).2.1) W
  have HFy0 : Hid (b.length ≤ 40 → ∀ r (h : r < b.length) W, Gives Try.prog 36 #[accV (accL op ((b.drop (r + 1)).reverse)), vlV b[r]] W (accV (accL op ((b.drop r).reverse)))) := Lib.hid fun hl r h W => by
    rw [rev_drop h, accL_snoc]
    have hq := accL_bounds op ((b.drop (r + 1)).reverse)
    have hlt : ((b.drop (r + 1)).reverse).length ≤ b.length := by rw [List.length_reverse, List.length_drop]; omega
    exact feed_any _ _ (by omega) (by omega) (by omega) (isI_of_wf (hb.2 _ (List.getElem_mem h)).2.1) W
  have HM10 : Hid (a.length ≤ 40 → b.length ≤ 40 → ∀ W, Gives Try.prog 38 #[accV (defS op a), accV (defS op b)] W (accV (defS op (a ++ b)))) := Lib.hid fun h1 h2 W => by
    rw [← mergeS_def]
    have b1 := accL_bounds op a
    have b2 := accL_bounds op b
    rw [accL_def] at b1 b2
    exact merge_any _ _ (by omega) (by omega) (by omega) (by omega) (by omega) (by omega) W
  have HM20 : Hid (a.length ≤ 40 → b.length ≤ 40 → ∀ W, Gives Try.prog 38 #[accV (defS op b), accV (defS op a)] W (accV (defS op (a ++ b)))) := Lib.hid fun h1 h2 W => by
    rw [← hpm, ← mergeS_def]
    have b1 := accL_bounds op a
    have b2 := accL_bounds op b
    rw [accL_def] at b1 b2
    exact merge_any _ _ (by omega) (by omega) (by omega) (by omega) (by omega) (by omega) W
  have hab : ∀ v ∈ a ++ b, VlOk v := fun v h => by
    rcases List.mem_append.1 h with h | h
    · exact ha.2 v h
    · exact hb.2 v h
  have HRes0 : Hid (a.length ≤ 40 → b.length ≤ 40 → ∀ W, Gives Try.prog 37 #[accV (defS op (a ++ b))] W (.tuple #[.agg #[.int .i64 vk, .int .i64 vi, .string vs], .int .i64 f])) := Lib.hid fun h1 h2 W => by
    have hz := accL_isW op (a ++ b) (by rw [List.length_append]; omega) hab
    rw [accL_def] at hz
    have := result_any (defS op (a ++ b)) hz W
    rw [show resS (defS op (a ++ b)) = tellS op (a ++ b) from rfl, hv] at this
    exact this
  have HOf0 : Hid (a.length ≤ 40 → b.length ≤ 40 → ∀ W A3 c3 L, L = a.length + b.length → VlsR (PRow W) A3 (a ++ b) → Gives Try.prog 33 #[.int .i64 op, .slice A3 L c3] W (.tuple #[.agg #[.int .i64 vk, .int .i64 vi, .string vs], .int .i64 f])) := Lib.hid fun h1 h2 W A3 c3 L hL h => by
    have := rof_any op (a ++ b) (by rw [List.length_append]; omega) hab A3 c3 W h
    rw [hv, List.length_append, ← hL] at this
    exact this
  obtain ⟨⟨⟨uk, ui, us⟩, f2⟩, hu⟩ : ∃ p, tellS op a = p := ⟨_, rfl⟩
  have HOa0 : Hid (a.length ≤ 40 → ∀ W, Grew w W → Gives Try.prog 33 #[.int .i64 op, .slice A a.length k] W (.tuple #[.agg #[.int .i64 uk, .int .i64 ui, .string us], .int .i64 f2])) := Lib.hid fun h1 W hW => by
    have := rof_any op a (by omega) ha.2 A k W (ra.grew hW)
    rw [hu] at this
    exact this
  have HRa0 : Hid (a.length ≤ 40 → ∀ W, Gives Try.prog 37 #[accV (defS op a)] W (.tuple #[.agg #[.int .i64 uk, .int .i64 ui, .string us], .int .i64 f2])) := Lib.hid fun h1 W => by
    have hz := accL_isW op a (by omega) ha.2
    rw [accL_def] at hz
    have := result_any (defS op a) hz W
    rw [show resS (defS op a) = tellS op a from rfl, hu] at this
    exact this
  have HMo0 : Hid (a.length ≤ 40 → ∀ o, ¬ o = op → ∀ W, Gives Try.prog 38 #[accV (defS op a), accV (feedS (startS o) ⟨1, 3, ⟨#[]⟩⟩)] W (accV (defS op a))) := Lib.hid fun h1 o ho W => by
    have b1 := accL_bounds op a
    rw [accL_def] at b1
    have e : mergeS (defS op a) (feedS (startS o) ⟨1, 3, ⟨#[]⟩⟩) = defS op a := mergeS_other (fun h => ho h.symm)
    have := merge_any (defS op a) (feedS (startS o) ⟨1, 3, ⟨#[]⟩⟩) (by omega) (by omega) (by omega) (by simp [feedS, startS]) (by simp [feedS, startS]) (by simp [feedS, startS]) W
    rw [e] at this
    exact this
  have HFo : Hid (∀ o W, Gives Try.prog 36 #[accV (startS o), vlV ⟨1, 3, ⟨#[]⟩⟩] W (accV (feedS (startS o) ⟨1, 3, ⟨#[]⟩⟩))) := Lib.hid fun o W => feed_any _ _ (by simp [startS]) (by simp [startS]) (by simp [startS]) (by unfold isI; simp) W
  have HS : Hid (∀ o W, Gives Try.prog 35 #[.int .i64 o] W (accV (startS o))) := Lib.hid fun o W => start_any o W
  obtain ⟨n, hn⟩ : ∃ n, a.length = n := ⟨_, rfl⟩
  obtain ⟨m, hm⟩ : ∃ m, b.length = m := ⟨_, rfl⟩
  have HNa := Lib.hid hn
  have HNb := Lib.hid hm
  rw [hn] at HOa0 HRa0 HMo0
  rw [hn, hm] at HM HGo HM10 HM20 HRes0 HOf0 ⊢
  clear ra rb ha hb hk hj hn hm hab hv hu hpm hry
  unfold Gives
  go_enter Try.func7, Try.ntmps7
  go_wp2_with fail
  refine HM.out.mono ?_
  rintro e w2 ⟨t1, rfl, hg2, h1⟩
  have HG2 := Lib.hid (((Grew.refl w).alloc _).trans hg2)
  have H1 := Lib.hid h1
  clear hg2 h1 HM
  cases t1
  rotate_left
  · clear HS RA RB HOA HOB HFx0 HFy0 HM10 HM20 HRes0 HOf0 HOa0 HRa0 HMo0 HFo HRY
    go_wp2_with (first | (go_at_call 31; (with_reducible refine (live14_any _).grows.mono ?_); rintro e w6 ⟨rfl, hg6⟩; have G6 := Lib.hid hg6; clear hg6))
    go_ret
    exact ⟨rfl, HG2.out.trans G6.out⟩
  obtain ⟨hn40, hm40⟩ := HGo.out (H1.out (by first | rfl | trivial))
  clear H1 HGo
  go_wp2_with fail
  refine (HS.out op _).grows.mono ?_
  rintro e w3 ⟨rfl, hg3⟩
  have HG3 := Lib.hid (HG2.out.trans hg3)
  clear hg3
  go_wp2_with fail
  refine (HS.out op _).grows.mono ?_
  rintro e w4 ⟨rfl, hg4⟩
  have HG4 := Lib.hid (HG3.out.trans hg4)
  clear hg4
  have HFx := Lib.hid (HFx0.out (by rw [HNa.out]; exact hn40))
  have HFy := Lib.hid (HFy0.out (by rw [HNb.out]; exact hm40))
  have HM1 := Lib.hid (HM10.out hn40 hm40)
  have HM2 := Lib.hid (HM20.out hn40 hm40)
  have HRes := Lib.hid (HRes0.out hn40 hm40)
  have HOf := Lib.hid (HOf0.out hn40 hm40)
  have HOa := Lib.hid (HOa0.out hn40)
  have HRa := Lib.hid (HRa0.out hn40)
  have HMo := Lib.hid (HMo0.out hn40)
  clear HFx0 HFy0 HM10 HM20 HRes0 HOf0 HOa0 HRa0 HMo0
  obtain ⟨d0, hd0⟩ : ∃ d, startS op = d := ⟨_, rfl⟩
  rw [hd0]
  have HD0 := Lib.hid hd0
  clear hd0
  obtain ⟨W5, hW5⟩ : ∃ W5, W5 = (w4.alloc (.cells (accC d0) 58)).alloc (.cells (accC d0) 58) := ⟨_, rfl⟩
  have HG5 : Hid (Grew w4 W5) := Lib.hid (by rw [hW5]; exact ((Grew.refl _).alloc _).alloc _)
  have HX5 : Hid (Blok W5 w4.heap.size 58 (accC d0)) := Lib.hid (by rw [hW5]; exact (Blok.new _ _ _ _ rfl).alloc _)
  have HY5 : Hid (Blok W5 (w4.heap.size + 1) 58 (accC d0)) := Lib.hid (by rw [hW5]; exact Blok.new _ _ _ _ (by simp))
  unfold accV
  unfold accC at hW5
  go_upto_region 4 with fail
  rw [← hW5]
  clear hW5
  generalize hgw : w4.heap.size = g at *
  have HGE := Lib.hid (Nat.le_of_eq hgw)
  clear hgw
  go_wp2
  go_loopw [11] (fun i wr => XAt w4 op a d0 g i wr) (fun i _ => n - (intOf i).toNat)
  case atStart => exact ⟨0, Nat.zero_le _, rfl, by rw [List.take_zero, show accL op [] = d0 from HD0.out]; exact HX5.out, HY5.out, HG5.out⟩
  case round =>
    obtain ⟨i, hi, rfl, hx, hy, hg⟩ := hrel
    rw [HNa.out] at hi
    have HX := Lib.hid hx
    have HY := Lib.hid hy
    have HG := Lib.hid hg
    clear hx hy hg HX5 HY5 HG5
    by_cases h : i < n
    · have hia : i < a.length := by rw [HNa.out]; exact h
      obtain ⟨bb, bo, rfl, hlb, q0, q1, q2⟩ := vlsR_at (RA.out.grew (HG4.out.trans HG.out)) hia
      have HFj := Lib.hid (HFx.out i hia)
      clear HFx HFy HM1 HM2 HRes HOf HOa HRa HMo HFo HRY HS RB
      obtain ⟨a', ha'⟩ : ∃ a', accL op (a.take (i + 1)) = a' := ⟨_, rfl⟩
      rw [ha'] at HFj
      have HA' := Lib.hid ha'
      clear ha'
      generalize accL op (a.take i) = c at *
      generalize a[i] = v at *
      unfold accV vlV at HFj
      have HXX := HX
      unfold accC at HX
      obtain ⟨la, a0, a1, a2, a3, a4, a5, a6, a7, a8, a9⟩ := acc_in HX.out
      obtain ⟨b0, b1, b2, b3, b4, b5, b6, b7, b8, b9⟩ := acc_th HX.out
      go_upto_region 7 with fail
      refine wp_region_more_tail 6 (by kernel_rfl) (by kernel_rfl) ?_
      simp only [List.take_succ_cons, List.take_zero, List.drop_succ_cons, List.drop_zero]
      repeat (go_big_quiet_step (((go_at_call 36; with_reducible exact (HFj.out _).within))))
      refine wpQuiet_nil ?_
      rintro _ ⟨z, rfl⟩
      go_wp2
      refine ⟨⟨i + 1, by rw [HNa.out]; omega, by go_num, by rw [HA'.out]; exact (acc_set HX.out _ _ _ _ _ _ _ _ _ _).more z, ?_, (grew_set10 HG.out HGE.out _ _ _ _ _ _ _ _ _ _).more z⟩, by simp only [intOf]; omega⟩
      refine Blok.more ?_ z
      iterate 10 refine Blok.far ?_ (by simp) _
      exact HY.out
    · obtain rfl : i = n := by omega
      rw [List.take_of_length_le (Nat.le_of_eq HNa.out), accL_def] at HX
      clear HFx h
      obtain ⟨dx, hdx⟩ : ∃ d, defS op a = d := ⟨_, rfl⟩
      rw [hdx] at HX HM1 HM2 HRa HMo
      clear hdx
      obtain ⟨wo, hwo⟩ : ∃ wo : World, wo = wr := ⟨_, rfl⟩
      subst hwo
      have hw1 : IntKind.i64.wrap ((m : Int) - 1) = (m : Int) - 1 := IntWalk.i64_in _ (by omega)
      go_wp2
      go_loopw [12] (fun i wr => YAt w4 op b dx g i wr) (fun i _ => (intOf i + 1).toNat)
      case atStart => exact ⟨m, Nat.le_of_eq HNb.out.symm, rfl, by rw [List.drop_of_length_le (Nat.le_of_eq HNb.out), List.reverse_nil, show accL op [] = d0 from HD0.out]; exact HY.out, HX.out, HG.out⟩
      case round =>
        clear HX HY HG
        obtain ⟨q, hq, rfl, hy, hx, hg⟩ := hrel
        rw [HNb.out] at hq
        have HX := Lib.hid hx
        have HY := Lib.hid hy
        have HG := Lib.hid hg
        clear hx hy hg
        rcases q with _ | r
        · rw [show ((0 : Nat) : Int) - 1 = -1 from rfl]
          rw [List.drop_zero, HRY.out] at HY
          clear HFy HRY
          obtain ⟨dy, hdy⟩ : ∃ d, defS op b = d := ⟨_, rfl⟩
          rw [hdy] at HY HM1 HM2
          clear hdy
          obtain ⟨dm, hdm⟩ : ∃ d, defS op (a ++ b) = d := ⟨_, rfl⟩
          rw [hdm] at HM1 HM2 HRes
          clear hdm
          unfold accV at HM1 HM2 HRes HRa HMo HFo HS
          unfold vlV at HFo
          unfold accC at HX HY
          obtain ⟨cA, lA, rA⟩ := RA.out
          obtain ⟨cB, lB, rB⟩ := RB.out
          have HFA : Hid (cA.flatten.length = i * 3) := Lib.hid (by rw [lA.flat, HNa.out])
          have HFB : Hid (cB.flatten.length = m * 3) := Lib.hid (by rw [lB.flat, HNb.out])
          have HOA1 := Lib.hid (vl_one a lA)
          have HOB1 := Lib.hid (vl_one b lB)
          have HRA := Lib.hid (Row.grew rA (HG4.out.trans HG.out))
          have HRB := Lib.hid (Row.grew rB (HG4.out.trans HG.out))
          have HL : Hid (ListR VlR 3 (a ++ b) (cA ++ cB)) := Lib.hid (lA.append lB)
          clear lA lB rA rB RA RB HOA HOB
          go_wp2_with (at_builtin; refine wpList_apps rfl (.tmp 59) (.tmp 60) 46 23 3 rfl wr (.agg #[.int .i64 0, .int .i64 0, .string ⟨#[]⟩]) 32 Try.underlying46 infoV14 rfl (by decide) (by decide) _ 0 [] rfl (own_empty _ _ _ _ _ rfl (Nat.le_refl _)) A i k cA.flatten rfl HFA.out (Row.grew HRA.out ((Grew.refl wr).alloc _)) HOA1.out (by omega) ((Grew.refl wr).alloc _) ?_)
          intro A1 c1 w6 ho1 _ hg1 _ _
          have HO1 := Lib.hid ho1
          have HG6 := Lib.hid hg1
          clear ho1 hg1
          go_wp2_with (at_builtin; refine wpList_apps rfl (.tmp 61) (.tmp 62) 46 23 3 rfl wr (.agg #[.int .i64 0, .int .i64 0, .string ⟨#[]⟩]) 32 Try.underlying46 infoV14 rfl (by decide) (by decide) _ _ _ rfl HO1.out B m j cB.flatten rfl HFB.out (Row.grew HRB.out HG6.out) HOB1.out (by omega) HG6.out ?_)
          intro A3 c3 w7 _ hr3 hg3 _ _
          have HR3 := Lib.hid hr3
          have HG7 := Lib.hid hg3
          clear hr3 hg3 HO1 HG6 HFA HFB HOA1 HOB1 HRA HRB
          go_wp2_with fail
          refine (HOf.out w7 A3 c3 _ (by omega) ⟨cA ++ cB, HL.out, by rw [List.flatten_append]; exact HR3.out⟩).grows.mono ?_
          rintro e w8 ⟨rfl, hg8⟩
          have HG8 := Lib.hid (HG7.out.trans hg8)
          clear hg8 HL HR3 HG7 HOf
          have HX8 := Lib.hid (HX.out.grew HG8.out)
          have HY8 := Lib.hid (HY.out.grew HG8.out)
          clear HX HY
          obtain ⟨W9, hW9⟩ : ∃ x, x = w8.alloc (.cells #[.int .i64 vk, .int .i64 vi, .string vs] 23) := ⟨_, rfl⟩
          have HW9 : Hid (Grew wr W9) := Lib.hid (by rw [hW9]; exact HG8.out.alloc _)
          have BW9 : Hid (Blok W9 w8.heap.size 23 #[.int .i64 vk, .int .i64 vi, .string vs]) := Lib.hid (by rw [hW9]; exact Blok.new _ _ _ _ rfl)
          have HX9 := Lib.hid (show Blok W9 _ _ _ by rw [hW9]; exact HX8.out.alloc _)
          have HY9 := Lib.hid (show Blok W9 _ _ _ by rw [hW9]; exact HY8.out.alloc _)
          clear HX8 HY8
          go_upto_region 13 with fail
          rw [← hW9]
          clear hW9
          generalize w8.heap.size = g13 at *
          obtain ⟨xl, x0, x1, x2, x3, x4, x5, x6, x7, x8, x9⟩ := acc_in HX9.out
          obtain ⟨yl, y0, y1, y2, y3, y4, y5, y6, y7, y8, y9⟩ := acc_in HY9.out
          go_wp2_with fail
          refine (HM1.out _).grows.mono ?_
          rintro e w10 ⟨rfl, hgw10⟩
          have HKw10 := Lib.hid hgw10
          clear hgw10
          go_wp2_with fail
          refine (HRes.out _).grows.mono ?_
          rintro e w11 ⟨rfl, hgw11⟩
          have HKw11 := Lib.hid (HKw10.out.trans hgw11)
          clear hgw11
          clear xl x0 x1 x2 x3 x4 x5 x6 x7 x8 x9
          clear yl y0 y1 y2 y3 y4 y5 y6 y7 y8 y9
          have HGw11 := Lib.hid (HW9.out.trans HKw11.out)
          obtain ⟨W12, hW12⟩ : ∃ x, x = w11.alloc (.cells #[.int .i64 vk, .int .i64 vi, .string vs] 23) := ⟨_, rfl⟩
          have HW12 : Hid (Grew wr W12) := Lib.hid (by rw [hW12]; exact HGw11.out.alloc _)
          have BW12 : Hid (Blok W12 w11.heap.size 23 #[.int .i64 vk, .int .i64 vi, .string vs]) := Lib.hid (by rw [hW12]; exact Blok.new _ _ _ _ rfl)
          have HX12 := Lib.hid (show Blok W12 _ _ _ by rw [hW12]; exact (HX9.out.grew HKw11.out).alloc _)
          have HY12 := Lib.hid (show Blok W12 _ _ _ by rw [hW12]; exact (HY9.out.grew HKw11.out).alloc _)
          have BW9' := Lib.hid (show Blok W12 _ _ _ by rw [hW12]; exact (BW9.out.grew HKw11.out).alloc _)
          clear BW9
          clear HX9 HY9 HKw10 HKw11
          go_upto_region 14 with fail
          rw [← hW12]
          clear hW12
          generalize w11.heap.size = g15 at *
          obtain ⟨xl, x0, x1, x2, x3, x4, x5, x6, x7, x8, x9⟩ := acc_in HX12.out
          obtain ⟨yl, y0, y1, y2, y3, y4, y5, y6, y7, y8, y9⟩ := acc_in HY12.out
          go_wp2_with fail
          refine (HM2.out _).grows.mono ?_
          rintro e w13 ⟨rfl, hgw13⟩
          have HKw13 := Lib.hid hgw13
          clear hgw13
          go_wp2_with fail
          refine (HRes.out _).grows.mono ?_
          rintro e w14 ⟨rfl, hgw14⟩
          have HKw14 := Lib.hid (HKw13.out.trans hgw14)
          clear hgw14
          clear xl x0 x1 x2 x3 x4 x5 x6 x7 x8 x9
          clear yl y0 y1 y2 y3 y4 y5 y6 y7 y8 y9
          have HGw14 := Lib.hid (HW12.out.trans HKw14.out)
          obtain ⟨W15, hW15⟩ : ∃ x, x = w14.alloc (.cells #[.int .i64 vk, .int .i64 vi, .string vs] 23) := ⟨_, rfl⟩
          have HW15 : Hid (Grew wr W15) := Lib.hid (by rw [hW15]; exact HGw14.out.alloc _)
          have BW15 : Hid (Blok W15 w14.heap.size 23 #[.int .i64 vk, .int .i64 vi, .string vs]) := Lib.hid (by rw [hW15]; exact Blok.new _ _ _ _ rfl)
          have HX15 := Lib.hid (show Blok W15 _ _ _ by rw [hW15]; exact (HX12.out.grew HKw14.out).alloc _)
          have HY15 := Lib.hid (show Blok W15 _ _ _ by rw [hW15]; exact (HY12.out.grew HKw14.out).alloc _)
          have BW9'' := Lib.hid (show Blok W15 _ _ _ by rw [hW15]; exact (BW9'.out.grew HKw14.out).alloc _)
          clear BW9'
          have BW12' := Lib.hid (show Blok W15 _ _ _ by rw [hW15]; exact (BW12.out.grew HKw14.out).alloc _)
          clear BW12
          clear HX12 HY12 HKw13 HKw14
          go_upto_region 15 with fail
          rw [← hW15]
          clear hW15
          generalize w14.heap.size = g17 at *
          obtain ⟨u0, u1, u2, u3, _, _, _⟩ := val_in BW9''.out
          obtain ⟨t0, t1, t2, t3, _, _, _⟩ := val_in BW12'.out
          obtain ⟨s0, s1, s2, s3, _, _, _⟩ := val_in BW15.out
          have evk : (vk == vk) = true := by simp
          have evi : (vi == vi) = true := by simp
          have evs : (vs.toList == vs.toList) = true := beq_self_eq_true _
          have ef : (f != f) = false := by simp
          go_upto_region 17 with (first
            | (go_at_call 34; (with_reducible refine (code14_any _ W15).grows.mono ?_); rintro e w16 ⟨rfl, hg16⟩; have HG16 := Lib.hid hg16; clear hg16)
            | (go_at_call 34; (with_reducible refine (code14_any _ w16).grows.mono ?_); rintro e w17 ⟨rfl, hg17⟩; have HG17 := Lib.hid (HG16.out.trans hg17); clear hg17))
          clear u0 u1 u2 u3 t0 t1 t2 t3 s0 s1 s2 s3 BW9'' BW12' BW15 HY15 HM1 HM2 HRes
          have HX17 := Lib.hid (HX15.out.grew HG17.out)
          have HG18 : Hid (Grew w w17) := Lib.hid (HG4.out.trans (HG.out.trans (HW15.out.trans HG17.out)))
          by_cases ho : other = op
          · have ho1 : (other == op) = true := by simp [ho]
            clear ho HMo HFo HS HOa HRa
            go_wp2_with (first | (go_at_call 31; (with_reducible refine (live14_any _).grows.mono ?_); rintro e w18 ⟨rfl, hg18⟩; have G18 := Lib.hid hg18; clear hg18))
            go_ret
            exact ⟨rfl, HG18.out.trans G18.out⟩
          have ho1 : (other == op) = false := by simp [ho]
          have HMp := Lib.hid (HMo.out other ho)
          have HFp := Lib.hid (HFo.out other)
          have HSp := Lib.hid (HS.out other)
          clear ho HMo HFo HS
          generalize feedS (startS other) ⟨1, 3, ⟨#[]⟩⟩ = df at *
          generalize startS other = ds at *
          go_upto_region 19 with fail
          go_cut [19, 20] (fun p er wx => ∃ gq, p = .pointer (some ⟨gq, 0, none⟩) ∧ er = .int .i64 f2 ∧ Blok wx gq 23 #[.int .i64 uk, .int .i64 ui, .string us] ∧ Grew w17 wx)
          case first =>
            obtain ⟨xl, x0, x1, x2, x3, x4, x5, x6, x7, x8, x9⟩ := acc_in HX17.out
            go_region_with (first | (go_at_call 35; (with_reducible refine (HSp.out _).grows.mono ?_); rintro e wa ⟨rfl, hgwa⟩; have HGwa : Hid (Grew w17 wa) := Lib.hid (Grew.trans (by repeat (first | with_reducible exact Grew.refl _ | refine Grew.alloc ?_ _ | refine Grew.drew ?_)) hgwa); obtain ⟨xlwa, x0wa, x1wa, x2wa, x3wa, x4wa, x5wa, x6wa, x7wa, x8wa, x9wa⟩ := acc_in (HX17.out.grew HGwa.out); try (first | (have BKwa := Lib.hid ((Blok.new _ 23 #[.int .i64 0, .int .i64 0, .string ⟨#[]⟩] _ rfl).grew hgwa); obtain ⟨klwa, k0wa, k1wa, k2wa, j0wa, j1wa, j2wa⟩ := val_in BKwa.out)); clear hgwa) | (go_at_call 36; (with_reducible refine (HFp.out _).grows.mono ?_); rintro e wb ⟨rfl, hgwb⟩; have HGwb : Hid (Grew w17 wb) := Lib.hid (Grew.trans (by repeat (first | with_reducible exact HGwa.out | with_reducible exact Grew.refl _ | refine Grew.alloc ?_ _ | refine Grew.drew ?_)) hgwb); obtain ⟨xlwb, x0wb, x1wb, x2wb, x3wb, x4wb, x5wb, x6wb, x7wb, x8wb, x9wb⟩ := acc_in (HX17.out.grew HGwb.out); try (first | (have BKwb := Lib.hid ((Blok.new _ 23 #[.int .i64 0, .int .i64 0, .string ⟨#[]⟩] _ rfl).grew hgwb); obtain ⟨klwb, k0wb, k1wb, k2wb, j0wb, j1wb, j2wb⟩ := val_in BKwb.out) | (have BKwb := Lib.hid (BKwa.out.grew hgwb); obtain ⟨klwb, k0wb, k1wb, k2wb, j0wb, j1wb, j2wb⟩ := val_in BKwb.out)); clear hgwb) | (go_at_call 38; (with_reducible refine (HMp.out _).grows.mono ?_); rintro e wc1 ⟨rfl, hgwc1⟩; have HGwc1 : Hid (Grew w17 wc1) := Lib.hid (Grew.trans (by repeat (first | with_reducible exact HGwb.out | with_reducible exact Grew.refl _ | refine Grew.alloc ?_ _ | refine Grew.drew ?_)) hgwc1); obtain ⟨xlwc1, x0wc1, x1wc1, x2wc1, x3wc1, x4wc1, x5wc1, x6wc1, x7wc1, x8wc1, x9wc1⟩ := acc_in (HX17.out.grew HGwc1.out); try (first | (have BKwc1 := Lib.hid ((Blok.new _ 23 #[.int .i64 0, .int .i64 0, .string ⟨#[]⟩] _ rfl).grew hgwc1); obtain ⟨klwc1, k0wc1, k1wc1, k2wc1, j0wc1, j1wc1, j2wc1⟩ := val_in BKwc1.out) | (have BKwc1 := Lib.hid (BKwb.out.grew hgwc1); obtain ⟨klwc1, k0wc1, k1wc1, k2wc1, j0wc1, j1wc1, j2wc1⟩ := val_in BKwc1.out)); clear hgwc1) | (go_at_call 37; (with_reducible refine (HRa.out _).grows.mono ?_); rintro e wd ⟨rfl, hgwd⟩; have HGwd : Hid (Grew w17 wd) := Lib.hid (Grew.trans (by repeat (first | with_reducible exact HGwc1.out | with_reducible exact Grew.refl _ | refine Grew.alloc ?_ _ | refine Grew.drew ?_)) hgwd); obtain ⟨xlwd, x0wd, x1wd, x2wd, x3wd, x4wd, x5wd, x6wd, x7wd, x8wd, x9wd⟩ := acc_in (HX17.out.grew HGwd.out); try (first | (have BKwd := Lib.hid ((Blok.new _ 23 #[.int .i64 0, .int .i64 0, .string ⟨#[]⟩] _ rfl).grew hgwd); obtain ⟨klwd, k0wd, k1wd, k2wd, j0wd, j1wd, j2wd⟩ := val_in BKwd.out) | (have BKwd := Lib.hid (BKwc1.out.grew hgwd); obtain ⟨klwd, k0wd, k1wd, k2wd, j0wd, j1wd, j2wd⟩ := val_in BKwd.out)); clear hgwd))
            all_goals go_wp2_with fail
            all_goals go_meet
            all_goals refine ⟨_, rfl, rfl, ?_, ?_⟩
            all_goals first | with_reducible exact val_set BKwd.out _ _ _ | exact Blok.new _ _ _ _ rfl | with_reducible exact HGwd.out.alloc _ | (refine grew_set3 HGwd.out ?_ _ _ _; first | exact HGwa.out.size | exact HGwb.out.size | exact HGwc1.out.size | exact Nat.le_refl _)
          case rest =>
            obtain ⟨gq, rfl, rfl, hbq, hgq⟩ := hcut
            have HBQ := Lib.hid hbq
            have HGQ := Lib.hid (HG18.out.trans hgq)
            clear hbq hgq HX17 HSp HFp HMp HRa
            go_upto_region 21 with (first | (go_at_call 33; (with_reducible refine (HOa.out _ HGQ.out).grows.mono ?_); rintro e w20 ⟨rfl, hg20⟩; have HK20 := Lib.hid hg20; clear hg20))
            obtain ⟨W21, hW21⟩ : ∃ x, x = w20.alloc (.cells #[.int .i64 uk, .int .i64 ui, .string us] 23) := ⟨_, rfl⟩
            have HG21 : Hid (Grew w W21) := Lib.hid (by rw [hW21]; exact (HGQ.out.trans HK20.out).alloc _)
            have HB21 := Lib.hid (show Blok W21 _ _ _ by rw [hW21]; exact (HBQ.out.grew HK20.out).alloc _)
            have HC21 : Hid (Blok W21 w20.heap.size 23 #[.int .i64 uk, .int .i64 ui, .string us]) := Lib.hid (by rw [hW21]; exact Blok.new _ _ _ _ rfl)
            rw [← hW21]
            clear hW21 HBQ HK20
            generalize w20.heap.size = g21 at *
            obtain ⟨p1, c0, c1, c2, _, _, _⟩ := val_in HB21.out
            obtain ⟨p2, d0, d1, d2, _, _, _⟩ := val_in HC21.out
            have euk : (uk == uk) = true := by simp
            have eui : (ui == ui) = true := by simp
            have eus : (us.toList == us.toList) = true := beq_self_eq_true _
            have ef2 : (f2 == f2) = true := by simp
            go_wp2_with (first
              | (go_at_call 34; (with_reducible refine (code14_any _ _).grows.mono ?_); rintro e w22 ⟨rfl, hg22⟩; have HG22 := Lib.hid (HG21.out.trans hg22); clear hg22)
              | (go_at_call 31; (with_reducible refine (live14_any _).grows.mono ?_); rintro e w23 ⟨rfl, hg23⟩; have HG23 := Lib.hid (HG22.out.trans hg23); clear hg23))
            go_ret
            exact ⟨rfl, HG23.out⟩
        · have hrb : r < b.length := by rw [HNb.out]; omega
          obtain ⟨bb, bo, rfl, hlb, q0, q1, q2⟩ := vlsR_at (RB.out.grew (HG4.out.trans HG.out)) hrb
          have HFj := Lib.hid (HFy.out r hrb)
          clear HFy HM1 HM2 HRes HOf HOa HRa HMo HFo HRY HS
          obtain ⟨a', ha'⟩ : ∃ a', accL op ((b.drop r).reverse) = a' := ⟨_, rfl⟩
          rw [ha'] at HFj
          have HA' := Lib.hid ha'
          clear ha'
          generalize accL op ((b.drop (r + 1)).reverse) = c at *
          generalize b[r] = v at *
          unfold accV vlV at HFj
          unfold accC at HY
          obtain ⟨la, a0, a1, a2, a3, a4, a5, a6, a7, a8, a9⟩ := acc_in HY.out
          obtain ⟨b0, b1, b2, b3, b4, b5, b6, b7, b8, b9⟩ := acc_th HY.out
          have e1 : (((r + 1 : Nat) : Int) - 1) = (r : Int) := by omega
          have hw2 : IntKind.i64.wrap ((r : Int) - 1) = (r : Int) - 1 := IntWalk.i64_in _ (by omega)
          rw [e1]
          clear e1
          go_upto_region 11 with fail
          refine wp_region_more_tail 6 (by kernel_rfl) (by kernel_rfl) ?_
          simp only [List.take_succ_cons, List.take_zero, List.drop_succ_cons, List.drop_zero]
          repeat (go_big_quiet_step (((go_at_call 36; with_reducible exact (HFj.out _).within))))
          refine wpQuiet_nil ?_
          rintro _ ⟨z, rfl⟩
          go_wp2
          refine ⟨⟨r, by rw [HNb.out]; omega, by go_num, by rw [HA'.out]; exact (acc_set HY.out _ _ _ _ _ _ _ _ _ _).more z, ?_, (grew_set10 HG.out (Nat.le_trans HGE.out (Nat.le_succ g)) _ _ _ _ _ _ _ _ _ _).more z⟩, by simp only [intOf]; omega⟩
          refine Blok.more ?_ z
          iterate 10 refine Blok.far ?_ (by simp) _
          exact HX.out
end Go.Proofs.Ytddambfniaiogaa
