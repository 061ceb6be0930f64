/- The statement ReadyOneSaid: for every input the law returns true, and each argument reads as it did. No condition beyond the row's own. -/
import Derived.Test.YtoaciliojdaoaaaQR1
import Derived.Deep.DeepCutAuto
import Derived.Test.YtoaciliojdaoaaaQNa
import Derived.Test.YtoaciliojdaoaaaQR2
import Derived.Test.YtoaciliojdaoaaaQPa
import Derived.Test.YtoaciliojdaoaaaFrame3
import Derived.Test.YtoaciliojdaoaaaQuery
import Derived.Test.YtoaciliojdaoaaaFrame2

/- Layer 33: the order in which all may go on, by the program. Condition: no more than a thousand pipes. -/
namespace Go.Proofs.Ytoaciliojdaoaaa
open Go.RowKit
attribute [local go_sem] more_cell more_frozen more_more more_setCell more_of_drew more_of_drewN lt_more le_more past_cell past_cell2 past_frozen past_frozen2 past_setCell past_setCell2 mid_cell mid_frozen mid_setCell
attribute [local go_sem ↓] Go.wp_at_zero Go.wp_at_succ

theorem SetQ.same {w : World} {b c : Nat} {L L' : List Int} (h : SetQ w b c L) (e : ∀ x, x ∈ L ↔ x ∈ L') : SetQ w b c L' := by
  obtain ⟨n, D, hn, h, k⟩ := h
  exact ⟨n, D, hn, h, fun x hx => (k x hx).trans (e x)⟩
def natL (n : Nat) : List Int := (List.range n).map fun (t : Nat) => (t : Int)
theorem natL_succ (n : Nat) : natL (n + 1) = natL n ++ [(n : Int)] := by
  unfold natL
  rw [List.range_succ, List.map_append]
  rfl
theorem natL_LL (n : Nat) : ∀ x, x ∈ natL n ↔ x ∈ LL n (List.replicate n false) := fun x => by
  rw [LL_mem]
  unfold natL
  rw [List.mem_map]
  constructor
  · rintro ⟨t, ht, rfl⟩
    have := List.mem_range.1 ht
    exact ⟨t, rfl, this, by rw [thB_at (by simpa using this)]; simp⟩
  · rintro ⟨t, rfl, h1, _⟩
    exact ⟨t, List.mem_range.2 h1, rfl⟩
theorem LL_del {n t : Nat} {d : List Bool} (ht : t < d.length) : ∀ x, x ∈ (LL n d).filter (fun y => !(y == (t : Int))) ↔ x ∈ LL n (d.set t true) := fun x => by
  rw [List.mem_filter, LL_mem, LL_mem]
  constructor
  · rintro ⟨⟨z, rfl, h1, h2⟩, h3⟩
    refine ⟨z, rfl, h1, ?_⟩
    rw [thB_on ht, h2]
    simp at h3
    simpa using fun e => h3 (by omega)
  · rintro ⟨z, rfl, h1, h2⟩
    rw [thB_on ht, Bool.or_eq_false_iff] at h2
    refine ⟨⟨z, rfl, h1, h2.1⟩, ?_⟩
    have : z ≠ t := by simpa using h2.2
    simp
    omega
def FilAt (w : World) (b n : Nat) (x : Value) (wr : World) : Prop := ∃ j : Nat, j ≤ n ∧ x = .int .i64 j ∧ Grew w wr ∧ SetQ wr b j (natL j)
structure OrS (w : World) (b base : Nat) (nd : List (List Int)) (n k : Nat) (A : Option Addr) (c : Nat) (wr : World) : Prop where
  grew : Grew w wr
  set : SetQ wr b n (LL n (ordS nd k).2)
  own : wr.ownsRow base 3 1 (.slice A k c) k (nL (ordS nd k).1)
  len : (ordS nd k).1.length = k
theorem OrS.on {w wr w' : World} {b base n k c : Nat} {nd : List (List Int)} {A : Option Addr} (s : OrS w b base nd n k A c wr) (g : Grew wr w') : OrS w b base nd n k A c w' :=
  ⟨s.grew.trans g, s.set.grew g, own_grewU s.own g, s.len⟩
def OrdAt (w : World) (b base : Nat) (nd : List (List Int)) (n : Nat) (x5 x6 : Value) (wr : World) : Prop := ∃ (k : Nat) (A : Option Addr) (c : Nat), k ≤ n ∧ x5 = .slice A k c ∧ x6 = .int .i64 (nxtR (stepR nd (ordS nd k).2)) ∧ OrS w b base nd n k A c wr
def OrdF (w : World) (l : List Nat) (e : Ending) (w' : World) : Prop := ∃ A c, e = .returned (.slice A l.length c) ∧ Grew w w' ∧ TRow w.heap.size w' 3 A (nL l)
set_option maxHeartbeats 4000000 in
set_option maxRecDepth 100000 in
theorem order33_any (o : Oth) (nd : List (List Int)) (n : Nat) (hn : nd.length = n) (hn1 : n ≤ 1000) (hw : wfG nd) (hel : ∀ e ∈ nd, e.length ≤ 30) (A : Option Addr) (k : Nat) (w : World) (ra : PipsR w A nd) :
    Calls Try.prog 15 #[plV o A n k] w (OrdF w (ordS nd n).1) := by
  have HLs := Lib.hid (fun (d : List Bool) b W (hW : Grew w W) (hs : SetQ W b n (LL n d)) => least33_any o nd n hn hw hel A k b n (LL n d) (fun x hx => by
    obtain ⟨t, h1, h2, _⟩ := LL_mem.1 hx
    exact ⟨t, h1, h2⟩) (nxtR (stepR nd d)) (fun out h => by rw [← hn] at h; exact lst_next (by omega) h) W (ra.grew hW) hs)
  have HLe : Hid (∀ k, (ordS nd k).1.length ≤ n) := Lib.hid fun k => by rw [← hn]; exact ordS_le nd k
  have HDl : Hid (∀ k, (ordS nd k).2.length = n) := Lib.hid fun k => by rw [← hn]; exact ordS_dlen nd k
  have HEnd : Hid (∀ k, (ordS nd k).1.length = k → stepR nd (ordS nd k).2 = none → ordS nd n = ordS nd k) := Lib.hid fun k h1 h2 => by rw [← hn]; exact ordS_end h1 h2
  have HSt : Hid (∀ d t, stepR nd d = some t → t < n) := Lib.hid fun d t h => by rw [← hn]; exact (stepR_inv h).1
  have HO0 : Hid (ordS nd 0 = ([], List.replicate n false)) := Lib.hid (by rw [← hn]; rfl)
  have hmm := @run_makeMap Try.prog
  clear hw hel ra hn
  unfold plV at *
  have HB0 : Hid (Blok (w.alloc (.cells (plC o A n k) 51)) w.heap.size 51 (plC o A n k)) := Lib.hid (Blok.new _ _ _ _ rfl)
  have HG0 : Hid (Grew w (w.alloc (.cells (plC o A n k) 51))) := Lib.hid ((Grew.refl w).alloc _)
  go_enter Try.func15, Try.ntmps15
  go_upto_region 1 with fail
  obtain ⟨w1, hw1⟩ : ∃ w1, w1 = w.alloc (.cells (plC o A n k) 51) := ⟨_, rfl⟩
  rw [← hw1] at HB0 HG0 ⊢
  clear hw1
  generalize w.heap.size = g at *
  go_upto_region 2 with fail
  have HS0 := Lib.hid (setQ_new w1 w1.heap.size rfl)
  have HG1 : Hid (Grew w1 (w1.alloc (.map #[] 0))) := Lib.hid ((Grew.refl w1).alloc _)
  have hw1l := HG0.out.size
  have H0 : Hid (FilAt w1 w1.heap.size n (.int .i64 (0 : Nat)) (w1.alloc (.map #[] 0))) := Lib.hid ⟨0, Nat.zero_le _, rfl, HG1.out, HS0.out⟩
  obtain ⟨b0, _, _, b1, _, _, _⟩ := boxP (HB0.out.grew HG1.out)
  clear HS0 HG1
  generalize w1.alloc (.map #[] 0) = w2 at *
  obtain ⟨b, hbb⟩ : ∃ b, w1.heap.size = b := ⟨_, rfl⟩
  rw [hbb] at H0 ⊢
  have HBs := Lib.hid hbb
  clear hbb
  go_wp2
  clear b0 b1
  go_loopw [11] (fun x wr => FilAt w1 b n x wr) (fun x _ => n - (intOf x).toNat)
  case atStart => exact H0.out
  case round =>
    obtain ⟨j, hj, rfl, hg, hs⟩ := hrel
    have HG := Lib.hid hg
    have HS := Lib.hid hs
    clear hg hs H0
    by_cases h1 : j < n
    · have hwz : wfI (j : Int) := wfI_nat (by omega)
      go_wp2_with (at_mapUpdate; refine wpList_qput rfl _ _ _ rfl rfl HS.out (by omega) (j : Int) hwz rfl rfl ?_; intro w9 hs9 hg9; have HS9 := Lib.hid hs9; have HG9 := Lib.hid (grew_map HG.out (by rw [HBs.out]; exact Nat.le_refl _) hg9); clear hs9 hg9)
      exact ⟨⟨j + 1, by omega, by go_num, HG9.out, by rw [natL_succ]; exact HS9.out⟩, by simp only [intOf]; omega⟩
    · obtain rfl : j = n := by omega
      have HO : Hid (OrS w1 b (b + 1) nd j 0 none 0 wr) := Lib.hid ⟨HG.out, by rw [HO0.out]; exact HS.out.same (natL_LL j), by rw [HO0.out]; exact own_none _ _ _ _, by rw [HO0.out]; rfl⟩
      have HSb := Lib.hid HO.out.set
      have hbw : b < wr.heap.size := HSb.out.lt
      obtain ⟨b0, d0, d1, b1, d3, d4, d5⟩ := boxP (HB0.out.grew HG.out)
      have HL0 := Lib.hid (HLs.out (ordS nd 0).2 b wr (HG0.out.trans HG.out) HSb.out)
      unfold plC at HL0
      clear HS HG HSb
      go_wp2_with (go_at_call 46; (with_reducible refine HL0.out.grows.mono ?_); rintro e w6 ⟨rfl, hg6⟩; have HO6 := Lib.hid (HO.out.on hg6); clear hg6)
      clear HL0 HO b0 d0 d1 b1 d3 d4 d5
      go_loopw [5, 6] (fun x5 x6 wx => OrdAt w1 b (b + 1) nd j x5 x6 wx) (fun x _ _ => j - lenV x)
      case atStart => exact ⟨0, none, 0, Nat.zero_le _, rfl, rfl, HO6.out⟩
      case round =>
        obtain ⟨q, A2, c2, hq, rfl, rfl, hs⟩ := hrel
        have HS := Lib.hid hs
        clear hs HO6
        rcases hst : stepR nd (ordS nd q).2 with _ | t
        · have HF : Hid (OrdF w (ordS nd j).1 (.returned (.slice A2 q c2)) wr) := Lib.hid (by
            have e2 := HEnd.out q HS.out.len hst
            exact ⟨A2, c2, by rw [e2, HS.out.len], HG0.out.trans HS.out.grew, by rw [e2]; exact (TRow.own HS.out.own).low (by have := HBs.out; omega)⟩)
          have e1 : decide ((0 : Int) ≤ (-1 : Int)) = false := by decide
          unfold nxtR
          simp only
          clear hst
          go_wp2
          all_goals first | exact HF.out | (go_ret; exact HF.out)
        · have htn := HSt.out _ t hst
          have hqj : q + 1 ≤ j := by
            have h4 := HLe.out (q + 1)
            rw [ordS_some hst, List.length_append, HS.out.len] at h4
            simpa using h4
          have HNx : Hid (ordS nd (q + 1) = ((ordS nd q).1 ++ [t], (ordS nd q).2.set t true)) := Lib.hid (ordS_some hst)
          have hdl := HDl.out q
          have hwz : wfI (t : Int) := wfI_nat (by omega)
          have ht0 : (0 : Int) ≤ (t : Int) := by omega
          unfold nxtR
          simp only
          clear hst
          have HSo := Lib.hid HS.out.own
          have hbl := HS.out.set.lt
          go_upto_region 12 with (at_builtin; refine wpList_appB rfl _ _ 30 3 1 rfl (b + 1) (.int .i64 0) 8 Try.underlying30 infoI rfl (by decide) (by decide) _ q (nL (ordS nd q).1) rfl (own_alloc HSo.out _) _ 1 1 [.int .i64 t] rfl rfl (row_one _ _ _ _ rfl) (by simp [Value.oneCell']) (by omega) (by rw [World.size_alloc]; omega) ?_; intro A9 c9 w9 ho9 hg9; have HG9 := Lib.hid ((HS.out.grew.alloc (.cells #[.int .i64 t] 3)).grown hg9 (fun i hi => by have := own_base HSo.out i hi; have := HBs.out; omega)); have HO9 := Lib.hid ho9; have HS9 := Lib.hid ((HS.out.set.grew ((Grew.refl _).alloc (.cells #[.int .i64 t] 3))).kept hg9 (fun e => by have := own_base HSo.out b e.symm; omega)); clear ho9 hg9)
          have hb9 := HS9.out.lt
          go_upto_region 10 with (at_delete; refine wpList_qdel rfl _ _ rfl rfl HS9.out (t : Int) hwz rfl ?_; intro w10 hs10 hg10; have HG10 := Lib.hid (grew_map HG9.out (by rw [HBs.out]; exact Nat.le_refl _) hg10); have HO10 := Lib.hid (own_grown HO9.out hg10 (fun i hi e => by have := own_base HO9.out i hi; injection e with e; omega)); have HS10 := Lib.hid (hs10.same (LL_del (by rw [hdl]; exact htn))); clear hs10 hg10)
          have HN10 : Hid (OrS w1 b (b + 1) nd j (q + 1) A9 c9 w10) := Lib.hid ⟨HG10.out, by rw [HNx.out]; exact HS10.out, by rw [HNx.out, ← nL_snoc]; exact HO10.out, by rw [HNx.out, List.length_append, HS.out.len]; rfl⟩
          obtain ⟨b0, d0, d1, b1, d3, d4, d5⟩ := boxP (HB0.out.grew HG10.out)
          have HL1 := Lib.hid (HLs.out (ordS nd (q + 1)).2 b w10 (HG0.out.trans HG10.out) HN10.out.set)
          unfold plC at HL1
          clear HS10 HO10 HG10 HO9 HS9 HG9 HSo HNx
          go_wp2_with (go_at_call 46; (with_reducible refine HL1.out.grows.mono ?_); rintro e w6 ⟨rfl, hg6⟩; have HO6 := Lib.hid (HN10.out.on hg6); clear hg6)
          exact ⟨⟨q + 1, A9, c9, hqj, rfl, rfl, HO6.out⟩, by simp only [lenV]; omega⟩
end Go.Proofs.Ytoaciliojdaoaaa

/- Layer 33: can all be done, and levels, by the program. Condition: no more than a thousand pipes. -/
namespace Go.Proofs.Ytoaciliojdaoaaa
open Go.RowKit
attribute [local go_sem] more_cell more_frozen more_more more_setCell more_of_drew more_of_drewN lt_more le_more past_cell past_cell2 past_frozen past_frozen2 past_setCell past_setCell2 mid_cell mid_frozen mid_setCell
attribute [local go_sem ↓] Go.wp_at_zero Go.wp_at_succ

theorem acyclic33_any (o : Oth) (nd : List (List Int)) (n : Nat) (hn : nd.length = n) (hn1 : n ≤ 1000) (hw : wfG nd) (hel : ∀ e ∈ nd, e.length ≤ 30) (A : Option Addr) (k : Nat) (w : World) (ra : PipsR w A nd) :
    Gives Try.prog 16 #[plV o A n k] w (.bool (decide ((ordS nd n).1.length = n))) := by
  have HOr := Lib.hid (fun W (hW : Grew w W) => order33_any o nd n hn hn1 hw hel A k W (ra.grew hW))
  have hle : (ordS nd n).1.length ≤ n := by rw [← hn]; exact ordS_le nd nd.length
  clear hw hel ra hn
  have he : (((ordS nd n).1.length : Int) == (n : Int)) = decide ((ordS nd n).1.length = n) := by rw [Bool.eq_iff_iff, beq_iff_eq, decide_eq_true_iff]; omega
  obtain ⟨t, ht⟩ : ∃ t, decide ((ordS nd n).1.length = n) = t := ⟨_, rfl⟩
  rw [ht] at he ⊢
  clear ht
  unfold OrdF at HOr
  generalize (ordS nd n).1 = l at *
  unfold Gives
  unfold plV at *
  have HB0 : Hid (Blok (w.alloc (.cells (plC o A n k) 51)) w.heap.size 51 (plC o A n k)) := Lib.hid (Blok.new _ _ _ _ rfl)
  have HG0 : Hid (Grew w (w.alloc (.cells (plC o A n k) 51))) := Lib.hid ((Grew.refl w).alloc _)
  go_enter Try.func16, Try.ntmps16
  go_upto_region 1 with fail
  obtain ⟨w1, hw1⟩ : ∃ w1, w1 = w.alloc (.cells (plC o A n k) 51) := ⟨_, rfl⟩
  rw [← hw1] at HB0 HG0 ⊢
  clear hw1
  generalize w.heap.size = g at *
  unfold plC at HOr
  refine wp_region_S (fun W => Grew w1 W) (by kernel_rfl) ?_
  refine held_take 0 (v := ?_) rfl (by kernel_rfl) (by kernel_rfl) (by kernel_rfl) (fun _ _ _ h => h) (by rfl) ?_ (Grew.refl _).drew ?_
  rotate_left
  · (intro W hW; obtain ⟨b0, d0, d1, b1, d3, d4, d5⟩ := boxP (HB0.out.grew hW); go_simp; with_reducible rfl)
  refine held_norm (a' := ?_) ?_ ?_
  rotate_left
  · (go_simp; with_reducible rfl)
  refine held_take 3 (v := ?_) rfl (by kernel_rfl) (by kernel_rfl) (by kernel_rfl) (fun _ _ _ h => h) (by rfl) ?_ (Grew.refl _).drew ?_
  rotate_left
  · (intro W hW; obtain ⟨b0, d0, d1, b1, d3, d4, d5⟩ := boxP (HB0.out.grew hW); go_simp; with_reducible rfl)
  refine held_take 4 (v := ?_) rfl (by kernel_rfl) (by kernel_rfl) (by kernel_rfl) (fun _ _ _ h => h) (by rfl) ?_ (Grew.refl _).drew ?_
  rotate_left
  · (intro W hW; obtain ⟨b0, d0, d1, b1, d3, d4, d5⟩ := boxP (HB0.out.grew hW); go_simp; with_reducible rfl)
  refine held_take 5 (v := ?_) rfl (by kernel_rfl) (by kernel_rfl) (by kernel_rfl) (fun _ _ _ h => h) (by rfl) ?_ (Grew.refl _).drew ?_
  rotate_left
  · (intro W hW; obtain ⟨b0, d0, d1, b1, d3, d4, d5⟩ := boxP (HB0.out.grew hW); go_simp; with_reducible rfl)
  refine held_norm (a' := ?_) ?_ ?_
  rotate_left
  · (go_simp; with_reducible rfl)
  refine held_call 1 (by kernel_rfl) rfl (by rfl) (fun K hK => ?_)
  go_simp
  go_wp2_with (go_at_call 15; (with_reducible refine (HOr.out _ (HG0.out.drew)).mono ?_); rintro e w6 ⟨A6, k6, rfl, hg6, hr6⟩; have G6 := Lib.hid ((Grew.refl w1).drew.trans hg6); clear hg6 hr6)
  refine hK.out _ _ G6.out ?_
  clear hK K
  refine held_take 2 (v := ?_) rfl (by kernel_rfl) (by kernel_rfl) (by kernel_rfl) (fun _ _ _ h => h) (by rfl) ?_ G6.out ?_
  rotate_left
  · (intro W hW; go_simp; with_reducible rfl)
  refine held_take 6 (v := ?_) rfl (by kernel_rfl) (by kernel_rfl) (by kernel_rfl) (fun _ _ _ h => h) (by rfl) ?_ G6.out ?_
  rotate_left
  · (intro W hW; go_simp; with_reducible rfl)
  refine held_take 7 (v := ?_) rfl (by kernel_rfl) (by kernel_rfl) (by kernel_rfl) (fun _ _ _ h => h) (by rfl) ?_ G6.out ?_
  rotate_left
  · (intro W hW; go_simp; with_reducible rfl)
  refine held_norm (a' := ?_) ?_ ?_
  rotate_left
  · (go_simp; with_reducible rfl)
  refine held_done (by kernel_rfl) ?_
  go_wp2
  go_ret
  exact ⟨by rw [← he]; rfl, HG0.out.trans G6.out⟩
theorem lvS_zero {nd : List (List Int)} {l : List Nat} {i : Nat} (hi : i ∉ l) : (lvS nd l).getD i 0 = 0 := by
  have : ∀ (l : List Nat) (lv : List Int), i ∉ l → (l.foldl (fun lv i => lv.set i (maxL lv (edgeAt nd i) + 1)) lv).getD i 0 = lv.getD i 0 := by
    intro l
    induction l with
    | nil => intro lv _; rfl
    | cons a t ih =>
      intro lv hm
      rw [List.foldl_cons, ih _ (fun h => hm (by simp [h]))]
      rw [List.getD_eq_getElem?_getD, List.getElem?_set_ne (fun e => hm (by simp [e])), ← List.getD_eq_getElem?_getD]
  unfold lvS
  rw [this l _ hi, List.getD_eq_getElem?_getD]
  by_cases h : i < nd.length
  · simp [h]
  · rw [List.getElem?_eq_none (by simp; omega)]; rfl
theorem maxL_in {lv : List Int} {m : Int} (h0 : 0 ≤ m) (h : ∀ x ∈ lv, 0 ≤ x ∧ x ≤ m) (e : List Int) : 0 ≤ maxL lv e ∧ maxL lv e ≤ m := by
  have hg : ∀ i, 0 ≤ lv.getD i 0 ∧ lv.getD i 0 ≤ m := fun i => by
    rw [List.getD_eq_getElem?_getD]
    cases hi : lv[i]? with
    | none => exact ⟨Int.le_refl _, h0⟩
    | some x => exact h x (List.mem_of_getElem? hi)
  have : ∀ (e : List Int) (a : Int), 0 ≤ a → a ≤ m → 0 ≤ e.foldl (fun h x => max h (lv.getD x.toNat 0)) a ∧ e.foldl (fun h x => max h (lv.getD x.toNat 0)) a ≤ m := by
    intro e
    induction e with
    | nil => intro a h1 h2; exact ⟨h1, h2⟩
    | cons b t ih =>
      intro a h1 h2
      rw [List.foldl_cons]
      have := hg b.toNat
      exact ih _ (by omega) (by omega)
  exact this e 0 (Int.le_refl _) h0
theorem maxL_snoc (lv e : List Int) (x : Int) : maxL lv (e ++ [x]) = max (maxL lv e) (lv.getD x.toNat 0) := by
  unfold maxL
  rw [List.foldl_append]
  rfl
theorem lvS_in (nd : List (List Int)) (l : List Nat) : ∀ x ∈ lvS nd l, 0 ≤ x ∧ x ≤ (l.length : Int) := by
  have : ∀ (l : List Nat) (lv : List Int) (m : Int), 0 ≤ m → (∀ x ∈ lv, 0 ≤ x ∧ x ≤ m) → ∀ x ∈ l.foldl (fun lv i => lv.set i (maxL lv (edgeAt nd i) + 1)) lv, 0 ≤ x ∧ x ≤ m + (l.length : Int) := by
    intro l
    induction l with
    | nil => intro lv m _ h x hx; have := h x hx; simpa using this
    | cons a t ih =>
      intro lv m h0 h x hx
      rw [List.foldl_cons] at hx
      have h2 := maxL_in h0 h (edgeAt nd a)
      have := ih _ (m + 1) (by omega) (fun y hy => by
        rcases List.mem_or_eq_of_mem_set hy with hy | hy
        · have := h y hy; omega
        · omega) x hx
      rw [List.length_cons]
      omega
  intro x hx
  have := this l (List.replicate nd.length 0) 0 (Int.le_refl _) (fun y hy => by rw [List.eq_of_mem_replicate hy]; omega) x hx
  omega
def levI (nd : List (List Int)) (l : List Nat) (t : Int) : Int := if 0 ≤ t ∧ t < nd.length then (lvS nd l).getD t.toNat 0 else 0
structure LvS (w : World) (lb B : Nat) (A : Option Addr) (l : List Nat) (lv : List Int) (wr : World) : Prop where
  grew : Grew w wr
  blk : Blok wr lb 3 (iV lv).toArray
  row : TRow B wr 3 A (nL l)
theorem LvS.on {w wr w' : World} {lb B : Nat} {A : Option Addr} {l : List Nat} {lv : List Int} (s : LvS w lb B A l lv wr) (g : Grew wr w') : LvS w lb B A l lv w' := ⟨s.grew.trans g, s.blk.grew g, s.row.grew g⟩
theorem iV_get (l : List Int) (z : Nat) : ((iV l).toArray)[z]? = (l[z]?).map (Value.int .i64) := by
  unfold iV
  simp
theorem iV_put (l : List Int) (i : Nat) (v : Int) : (iV l).toArray.setIfInBounds i (.int .i64 v) = (iV (l.set i v)).toArray := by
  unfold iV
  apply Array.ext'
  rw [Array.toList_setIfInBounds, List.map_set]
theorem LvS.put {w wr w' : World} {lb B : Nat} {A : Option Addr} {l : List Nat} {lv : List Int} (s : LvS w lb B A l lv wr) (hw : w.heap.size ≤ lb) (hB : lb < B) (i : Nat) (v : Int) (e : w' = wr.setCell ⟨lb, i, none⟩ (.int .i64 v)) : LvS w lb B A l (lv.set i v) w' := by
  subst e
  refine ⟨s.grew.setCell (a := ⟨lb, i, none⟩) hw _, ?_, s.row.turns ((Turns.refl wr lb).set i _) hB⟩
  rw [← iV_put]
  exact s.blk.set i _
def LvAt (w : World) (lb B : Nat) (A : Option Addr) (nd : List (List Int)) (l : List Nat) (x : Value) (wr : World) : Prop := ∃ j : Nat, j ≤ l.length ∧ x = .int .i64 j ∧ LvS w lb B A l (lvS nd (l.take j)) wr
def LvIn (w : World) (lb B : Nat) (A : Option Addr) (l : List Nat) (i : Nat) (lv e : List Int) (x : Value) (wr : World) : Prop := ∃ q : Nat, q ≤ e.length ∧ x = .int .i64 q ∧ LvS w lb B A l (lv.set i (maxL lv (e.take q))) wr
set_option maxHeartbeats 4000000 in
set_option maxRecDepth 100000 in
theorem level33_any (o : Oth) (nd : List (List Int)) (n : Nat) (hn : nd.length = n) (hn1 : n ≤ 1000) (hw : wfG nd) (hel : ∀ e ∈ nd, e.length ≤ 30) (A : Option Addr) (k : Nat) (t : Int) (w : World) (ra : PipsR w A nd) :
    Gives Try.prog 34 #[plV o A n k, .int .i64 t] w (.int .i64 (levI nd (ordS nd n).1 t)) := by
  have RA := Lib.hid ra
  have HOr := Lib.hid (fun W (hW : Grew w W) => order33_any o nd n hn hn1 hw hel A k W (ra.grew hW))
  have HEl := Lib.hid hel
  have HN := Lib.hid hn
  have HI := Lib.hid (ordInv nd n)
  have hle : (ordS nd n).1.length ≤ n := by rw [← hn]; exact ordS_le nd nd.length
  unfold OrdF at HOr
  generalize (ordS nd n).1 = l at *
  generalize (ordS nd n).2 = dn at *
  obtain ⟨i0, hi, hz0, hz1, hz2⟩ := info_parts infoI
  have HJ := Lib.hid hi
  have HJ0 := Lib.hid hz0
  have HJ1 := Lib.hid hz1
  have HJ2 := Lib.hid hz2
  clear hw hel ra hi hz0 hz1 hz2
  obtain ⟨fin, hfin⟩ : ∃ fin, levI nd l t = fin := ⟨_, rfl⟩
  rw [hfin]
  have HFin := Lib.hid hfin
  clear hfin
  unfold Gives
  unfold plV at *
  have HB0 : Hid (Blok (w.alloc (.cells (plC o A n k) 51)) w.heap.size 51 (plC o A n k)) := Lib.hid (Blok.new _ _ _ _ rfl)
  have HG0 : Hid (Grew w (w.alloc (.cells (plC o A n k) 51))) := Lib.hid ((Grew.refl w).alloc _)
  by_cases hin : 0 ≤ t ∧ t < n
  rotate_left
  · obtain rfl : fin = 0 := by rw [← HFin.out]; unfold levI; rw [if_neg (by rw [hn]; exact hin)]
    clear HFin HI hn hle
    go_enter Try.func34, Try.ntmps34
    go_upto_region 1 with fail
    obtain ⟨w1, hw1⟩ : ∃ w1, w1 = w.alloc (.cells (plC o A n k) 51) := ⟨_, rfl⟩
    rw [← hw1] at HB0 HG0 ⊢
    clear hw1
    generalize w.heap.size = g at *
    obtain ⟨b0, _, _, b1, _, _, _⟩ := boxP HB0.out
    by_cases h0 : t < 0
    · have e0 : decide (t < (0 : Int)) = true := decide_eq_true h0
      clear hin
      go_wp2
      go_ret
      exact ⟨rfl, HG0.out⟩
    · have e0 : decide (t < (0 : Int)) = false := decide_eq_false h0
      have h1 : (n : Int) ≤ t := by omega
      have e1 : decide ((n : Int) ≤ t) = true := decide_eq_true h1
      have h0' : 0 ≤ t := by omega
      clear hin h0
      go_wp2
      go_ret
      exact ⟨rfl, HG0.out⟩
  obtain ⟨t, rfl⟩ : ∃ z : Nat, t = (z : Int) := ⟨t.toNat, by omega⟩
  have htn : t < n := by omega
  have e0 : decide ((t : Int) < (0 : Int)) = false := decide_eq_false (by omega)
  have e1 : decide ((n : Int) ≤ (t : Int)) = false := decide_eq_false (by omega)
  have HFt : Hid ((lvS nd l).getD t 0 = fin) := Lib.hid (by rw [← HFin.out]; unfold levI; rw [if_pos (by omega), Int.toNat_natCast])
  clear HFin hin hn
  go_enter Try.func34, Try.ntmps34
  go_upto_region 1 with fail
  obtain ⟨w1, hw1⟩ : ∃ w1, w1 = w.alloc (.cells (plC o A n k) 51) := ⟨_, rfl⟩
  rw [← hw1] at HB0 HG0 ⊢
  clear hw1
  generalize w.heap.size = g at *
  obtain ⟨b0, d0, d1, b1, d3, d4, d5⟩ := boxP HB0.out
  go_upto_region 4 with (at_make; refine wpList_make_row _ rfl _ _ 30 rfl 3 i0 (.int .i64 0) Try.underlying30 HJ.out HJ0.out HJ1.out rfl _ _ n rfl rfl (by rw [HJ2.out]; omega) (by omega) ?_)
  clear b0 d0 d1 b1 d3 d4 d5 e0 e1
  have HLv0 : Hid (Blok (w1.alloc (.cells (madeCells #[.int .i64 0] n) 3)) w1.heap.size 3 (iV (lvS nd (l.take 0))).toArray) := Lib.hid (by
    have e : (iV (lvS nd (l.take 0))).toArray = madeCells #[.int .i64 0] n := by
      apply Array.ext'
      rw [toList_madeCells_one]
      show iV (List.replicate nd.length 0) = _
      rw [HN.out]
      simp [iV]
    rw [e]
    exact Blok.new w1 3 (madeCells #[.int .i64 0] n) _ rfl)
  have HG2 : Hid (Grew w1 (w1.alloc (.cells (madeCells #[.int .i64 0] n) 3))) := Lib.hid ((Grew.refl w1).alloc _)
  generalize w1.alloc (.cells (madeCells #[.int .i64 0] n) 3) = w2 at *
  obtain ⟨lb, hlb⟩ : ∃ lb, w1.heap.size = lb := ⟨_, rfl⟩
  rw [hlb] at HLv0 ⊢
  have HLb := Lib.hid hlb
  clear hlb
  obtain ⟨b0, d0, d1, b1, d3, d4, d5⟩ := boxP (HB0.out.grew HG2.out)
  have HOr1 := Lib.hid (HOr.out w2 (HG0.out.trans HG2.out))
  unfold plC at HOr1
  go_wp2_with (go_at_call 15; (with_reducible refine HOr1.out.mono ?_); rintro e w6 ⟨A6, k6, rfl, hg6, hr6⟩; have HG6 := Lib.hid (HG2.out.trans hg6); have HR6 := Lib.hid hr6; have HLv6 := Lib.hid (HLv0.out.grew hg6); have HS0 : Hid (LvS w1 lb w2.heap.size A6 l (lvS nd (l.take 0)) w6) := Lib.hid ⟨HG6.out, HLv6.out, hr6⟩; clear hg6 hr6)
  have hlbB : lb < w2.heap.size := HLv0.out.lt
  clear HLv0 HOr HOr1 b0 d0 d1 b1 d3 d4 d5 HR6 HLv6
  generalize w2.heap.size = B at *
  go_loopw [26] (fun x wr => LvAt w1 lb B A6 nd l x wr) (fun x _ => l.length - (intOf x).toNat)
  case atStart => exact ⟨0, Nat.zero_le _, rfl, HS0.out⟩
  case round =>
    obtain ⟨j, hj, rfl, hs⟩ := hrel
    have HS := Lib.hid hs
    clear hs HS0
    by_cases h1 : j < l.length
    · obtain ⟨b, of, rfl, hb, hc⟩ := row_nat HS.out.row.plain h1
      obtain ⟨hin, _⟩ := (HI.out.mem l[j]).1 (List.getElem_mem h1)
      have hneeds := HI.out.needs j h1
      have hnot : l[j] ∉ l.take j := fun hm => by
        obtain ⟨q, hq, e⟩ := List.getElem_of_mem hm
        rw [List.length_take] at hq
        rw [List.getElem_take] at e
        exact (List.pairwise_iff_getElem.1 HI.out.nodup) q j (by omega) h1 (by omega) e
      have HZ := Lib.hid (lvS_zero (nd := nd) hnot)
      have hlvl := lvS_len nd (l.take j)
      have HIn := Lib.hid (lvS_in nd (l.take j))
      have htl : (l.take j).length = j := by rw [List.length_take]; omega
      have HNx : Hid (lvS nd (l.take (j + 1)) = (lvS nd (l.take j)).set l[j] (maxL (lvS nd (l.take j)) (edgeAt nd l[j]) + 1)) := Lib.hid (by rw [List.take_succ_eq_append_getElem h1, lvS_snoc])
      have HNd : Hid (∀ x ∈ edgeAt nd l[j], ∃ z : Nat, x = (z : Int) ∧ z < n ∧ z ≠ l[j]) := Lib.hid fun x hx => by
        obtain ⟨z, z1, z2, z3⟩ := hneeds x hx
        exact ⟨z, z1, by rw [← HN.out]; exact z2, fun e => hnot (by rw [← e]; exact z3)⟩
      rw [HN.out] at hin hlvl
      rw [htl] at HIn
      have hjn : (j : Int) ≤ 1000 := by omega
      clear hnot hneeds htl
      generalize hlv : lvS nd (l.take j) = lv at *
      clear hlv
      generalize hli : l[j] = i at *
      have hih : i < nd.length := by rw [HN.out]; exact hin
      have hee : edgeAt nd i = nd[i] := edgeAt_eq hih
      rw [hee] at HNx HNd
      obtain ⟨pb, po, D, d, rfl, hpb, hpc, hpr⟩ := pips_at RA.out hih
      have hl30 := HEl.out _ (List.getElem_mem hih)
      have HP := Lib.hid (fun W (hW : Grew w W) => And.intro (Nat.lt_of_lt_of_le hpb hW.size) (And.intro ((hW.cell (a := ⟨pb, po + i * 3 + 2, none⟩) hpb).trans hpc) (hpr.grew hW)))
      clear hpb hpc hpr hee hli
      generalize nd[i] = e at *
      clear hih
      obtain ⟨b0, _, _, b1, _, _, _⟩ := boxP (HB0.out.grew HS.out.grew)
      obtain ⟨p0, p1, _⟩ := HP.out _ (HG0.out.trans HS.out.grew)
      have HS1 : Hid (LvS w1 lb B (some ⟨b, of, none⟩) l (lv.set i (maxL lv (e.take 0))) wr) := Lib.hid (by
        have : lv.set i (maxL lv (e.take 0)) = lv := by
          have h0 : lv[i] = 0 := by
            have := HZ.out
            rw [List.getD_eq_getElem?_getD, List.getElem?_eq_getElem (by omega)] at this
            exact this
          show lv.set i 0 = lv
          rw [← h0]
          exact List.set_getElem_self _
        rw [this]
        exact HS.out)
      clear HS HZ
      go_wp2
      clear b0 b1 p0 p1 hb hc
      go_loopw [37] (fun x wx => LvIn w1 lb B (some ⟨b, of, none⟩) l i lv e x wx) (fun x _ => e.length - (intOf x).toNat)
      case atStart => exact ⟨0, Nat.zero_le _, rfl, HS1.out⟩
      case round =>
        obtain ⟨q, hq, rfl, hs⟩ := hrel
        have HS := Lib.hid hs
        clear hs HS1
        have hmx := maxL_in (m := (j : Int)) (by omega) HIn.out (e.take q)
        by_cases h2 : q < e.length
        · obtain ⟨b2, o2, rfl, hb2, hc2⟩ := rowI_at (HP.out _ (HG0.out.trans HS.out.grew)).2.2 h2
          obtain ⟨zz, hz, hzn, hzi⟩ := HNd.out _ (List.getElem_mem h2)
          have HMx : Hid (maxL lv (e.take (q + 1)) = max (maxL lv (e.take q)) (lv.getD zz 0)) := Lib.hid (by
            rw [List.take_succ_eq_append_getElem h2, maxL_snoc, hz, Int.toNat_natCast])
          rw [hz] at hc2
          have t0 := HS.out.blk.cell i
          have t1 := HS.out.blk.cell zz
          have tf := HS.out.blk.thaw i
          have tl := HS.out.blk.lt
          rw [show ((iV (lv.set i (maxL lv (e.take q)))).toArray)[i]? = some (.int .i64 (maxL lv (e.take q))) by simp [iV, hin, hlvl]] at t0
          rw [show ((iV (lv.set i (maxL lv (e.take q)))).toArray)[zz]? = some (.int .i64 (lv.getD zz 0)) by
            rw [iV_get, List.getElem?_set_ne (fun e => hzi e.symm), List.getD_eq_getElem?_getD, List.getElem?_eq_getElem (by omega)]
            rfl] at t1
          obtain ⟨mx, hmx2⟩ : ∃ mx, max (maxL lv (e.take q)) (lv.getD zz 0) = mx := ⟨_, rfl⟩
          have HF := Lib.hid (fun W e1 => HS.out.put (w' := W) (by rw [HLb.out]; exact Nat.le_refl _) hlbB i mx e1)
          rw [List.set_set] at HF
          rw [hmx2] at HMx
          generalize maxL lv (List.take q e) = ma at *
          generalize lv.getD zz 0 = mz at *
          clear hz
          go_upto_region 10 with fail
          refine wp_region_more_tail 12 (by kernel_rfl) (by kernel_rfl) ?_
          simp only [List.take_succ_cons, List.take_zero, List.drop_succ_cons, List.drop_zero]
          repeat (go_big_quiet_step ((fail)))
          refine wpQuiet_nil ?_
          rintro _ ⟨z, rfl⟩
          have HFz := Lib.hid ((HF.out _ rfl).on ⟨z, rfl⟩)
          go_wp2
          exact ⟨⟨q + 1, by omega, by go_num, by rw [HMx.out]; exact HFz.out⟩, by simp only [intOf]; omega⟩
        · obtain rfl : q = e.length := by omega
          rw [List.take_length] at HS hmx
          have t0 := HS.out.blk.cell i
          have tf := HS.out.blk.thaw i
          have tl := HS.out.blk.lt
          rw [show ((iV (lv.set i (maxL lv e))).toArray)[i]? = some (.int .i64 (maxL lv e)) by simp [iV, hin, hlvl]] at t0
          have HF := Lib.hid (fun W e1 => HS.out.put (w' := W) (by rw [HLb.out]; exact Nat.le_refl _) hlbB i (maxL lv e + 1) e1)
          rw [List.set_set, ← HNx.out] at HF
          generalize maxL lv e = ma at *
          go_wp2
          exact ⟨⟨j + 1, by omega, by go_num, HF.out _ rfl⟩, by simp only [intOf]; omega⟩
    · obtain rfl : j = l.length := by omega
      rw [List.take_length] at HS
      have t0 := HS.out.blk.cell t
      have tl := HS.out.blk.lt
      have hlvl := lvS_len nd l
      rw [HN.out] at hlvl
      rw [iV_get, List.getElem?_eq_getElem (by omega), Option.map_some] at t0
      have e2 : (lvS nd l)[t]'(by omega) = fin := by
        have := HFt.out
        rw [List.getD_eq_getElem?_getD, List.getElem?_eq_getElem (by omega)] at this
        exact this
      rw [e2] at t0
      clear e2 hlvl
      generalize lvS nd l = lvv at *
      go_wp2
      go_ret
      exact ⟨rfl, HG0.out.trans HS.out.grew⟩
end Go.Proofs.Ytoaciliojdaoaaa

/- Layer 33: the bound on batches, by the program and by the document. Condition: no more than twenty pipes. -/
namespace Go.Proofs.Ytoaciliojdaoaaa
open Go.RowKit
attribute [local go_sem] more_cell more_frozen more_more more_setCell more_of_drew more_of_drewN lt_more le_more past_cell past_cell2 past_frozen past_frozen2 past_setCell past_setCell2 mid_cell mid_frozen mid_setCell
attribute [local go_sem ↓] Go.wp_at_zero Go.wp_at_succ

def bndS (per : List Int) (b : Int) : Nat → Int
  | 0 => 0
  | k + 1 => plusI (bndS per b k) (cutI (batI (per.getD k 0) b))
theorem bndS_s (per : List Int) (b : Int) (k : Nat) : sI (bndS per b k) := by
  induction k with
  | zero => exact ⟨Int.le_refl _, by show (0 : Int) ≤ _; omega⟩
  | succ k ih => exact plusI_s ih (cutI_s _)
theorem bat_le {r b : Int} (hr : 0 ≤ r) (hb : 1 ≤ b) : 0 ≤ batI r b ∧ batI r b ≤ 1 + r / b := by
  unfold batI
  have h0 : 0 ≤ r / b := Int.ediv_nonneg hr (by omega)
  split
  · omega
  · rw [if_neg (by omega)]
    have h1 : (r - 1) / b ≤ r / b := Int.ediv_le_ediv (by omega) (by omega)
    have h2 : 0 ≤ (r - 1) / b := Int.ediv_nonneg (by omega) (by omega)
    omega
theorem ediv_two {a c b : Int} (hb : 1 ≤ b) : a / b + c / b ≤ (a + c) / b := by
  rw [Int.le_ediv_iff_mul_le (by omega), Int.add_mul]
  have := Int.ediv_mul_le a (b := b) (by omega)
  have := Int.ediv_mul_le c (b := b) (by omega)
  omega
def sumI (l : List Int) : Int := l.foldl (fun a x => a + x) 0
theorem sumI_snoc (l : List Int) (x : Int) : sumI (l ++ [x]) = sumI l + x := by
  unfold sumI
  rw [List.foldl_append]
  rfl
theorem sumI_take (l : List Int) (k : Nat) : sumI (l.take (k + 1)) = sumI (l.take k) + l.getD k 0 := by
  by_cases h : k < l.length
  · rw [List.take_succ_eq_append_getElem h, sumI_snoc, List.getD_eq_getElem?_getD, List.getElem?_eq_getElem h]
    rfl
  · rw [List.take_of_length_le (by omega), List.take_of_length_le (by omega), List.getD_eq_getElem?_getD, List.getElem?_eq_none (by omega)]
    exact (Int.add_zero _).symm
theorem getD_nonneg {l : List Int} (h : ∀ x ∈ l, 0 ≤ x) (k : Nat) : 0 ≤ l.getD k 0 := by
  rw [List.getD_eq_getElem?_getD]
  cases hk : l[k]? with
  | none => exact Int.le_refl _
  | some x => exact h x (List.mem_of_getElem? hk)
theorem sumI_mono {l : List Int} (h : ∀ x ∈ l, 0 ≤ x) (k : Nat) : 0 ≤ sumI (l.take k) ∧ sumI (l.take k) ≤ sumI l := by
  have h1 : ∀ k, 0 ≤ sumI (l.take k) := fun k => by
    induction k with
    | zero => exact Int.le_refl _
    | succ k ih => rw [sumI_take]; have := getD_nonneg h k; omega
  refine ⟨h1 k, ?_⟩
  have h2 : ∀ m, sumI (l.take k) ≤ sumI (l.take (k + m)) := fun m => by
    induction m with
    | zero => exact Int.le_refl _
    | succ m ih => rw [← Nat.add_assoc, sumI_take]; have := getD_nonneg h (k + m); omega
  have := h2 l.length
  rwa [List.take_of_length_le (by omega : l.length ≤ k + l.length)] at this
theorem bndS_le {per : List Int} {b : Int} (hb : 1 ≤ b) (h : ∀ x ∈ per, 0 ≤ x) (n : Nat) : bndS per b n ≤ n + sumI per / b := by
  have h1 : ∀ k : Nat, bndS per b k ≤ k + sumI (per.take k) / b := fun k => by
    induction k with
    | zero =>
      show (0 : Int) ≤ (0 : Nat) + sumI (per.take 0) / b
      have : sumI (per.take 0) = 0 := rfl
      rw [this, Int.zero_ediv]
      omega
    | succ k ih =>
      have hg := getD_nonneg h k
      obtain ⟨b0, b1⟩ := bat_le hg hb
      have h2 := ediv_two (a := sumI (per.take k)) (c := per.getD k 0) hb
      rw [sumI_take]
      show plusI (bndS per b k) (cutI (batI (per.getD k 0) b)) ≤ _
      have h3 : cutI (batI (per.getD k 0) b) ≤ batI (per.getD k 0) b := by unfold cutI; split <;> (try split) <;> omega
      have h4 : plusI (bndS per b k) (cutI (batI (per.getD k 0) b)) ≤ bndS per b k + cutI (batI (per.getD k 0) b) := by unfold plusI; split <;> omega
      generalize sumI (per.take k) = s at *
      generalize per.getD k 0 = r at *
      generalize batI r b = u at *
      generalize cutI u = v at *
      generalize (s + r) / b = q1 at *
      generalize s / b = q2 at *
      generalize r / b = q3 at *
      omega
  have h2 := (sumI_mono h n).2
  have h3 : sumI (per.take n) / b ≤ sumI per / b := Int.ediv_le_ediv (by omega) h2
  have := h1 n
  omega
theorem iV_wf {l : List Int} (h : ∀ x ∈ l, wfI x) (k : Nat) : wfI (l.getD k 0) := by
  rw [List.getD_eq_getElem?_getD]
  cases hk : l[k]? with
  | none => exact wfI_nat (n := 0) (by omega)
  | some x => exact h x (List.mem_of_getElem? hk)
def BndAt (w : World) (per : List Int) (b : Int) (n : Nat) (a i : Value) (wr : World) : Prop := ∃ k : Nat, k ≤ n ∧ i = .int .i64 k ∧ a = .int .i64 (bndS per b k) ∧ Grew w wr
end Go.Proofs.Ytoaciliojdaoaaa

/- Layer 33: the document's example of readiness, by the program. No condition. -/
namespace Go.Proofs.Ytoaciliojdaoaaa
open Go.RowKit
attribute [local go_sem] more_cell more_frozen more_more more_setCell more_of_drew more_of_drewN lt_more le_more past_cell past_cell2 past_frozen past_frozen2 past_setCell past_setCell2 mid_cell mid_frozen mid_setCell
attribute [local go_sem ↓] Go.wp_at_zero Go.wp_at_succ

def ndL : List (List Int) := [[1, 2], [2], []]
theorem ndL_ord : (ordS ndL 3).1 = [2, 1, 0] := by decide
theorem ndL_lev : levI ndL [2, 1, 0] 0 = 3 := by decide
theorem ndL_wf : wfG ndL := by
  intro e he x hx
  unfold ndL at he
  simp only [List.mem_cons, List.not_mem_nil, or_false] at he
  rcases he with rfl | rfl | rfl
  · simp only [List.mem_cons, List.not_mem_nil, or_false] at hx
    rcases hx with rfl | rfl
    · exact wfI_nat (n := 1) (by omega)
    · exact wfI_nat (n := 2) (by omega)
  · simp only [List.mem_cons, List.not_mem_nil, or_false] at hx
    subst hx
    exact wfI_nat (n := 2) (by omega)
  · cases hx
theorem ndL_len : ∀ e ∈ ndL, e.length ≤ 30 := by decide
def nilS : Osl := ⟨none, 0, 0⟩
def nilO : Oth := ⟨nilS, nilS, nilS, nilS, nilS⟩
def pcsL (h : Nat) : List (List Value) := [[.slice none 0 0, .slice none 0 0, .slice (some ⟨h, 0, none⟩) 2 2], [.slice none 0 0, .slice none 0 0, .slice (some ⟨h + 1, 0, none⟩) 1 1], [.slice none 0 0, .slice none 0 0, .slice none 0 0]]
theorem pipsL {w : World} {h : Nat} {A : Option Addr} (r0 : Row w (some ⟨h, 0, none⟩) [.int .i64 1, .int .i64 2]) (r1 : Row w (some ⟨h + 1, 0, none⟩) [.int .i64 2]) (r2 : Row w A (pcsL h).flatten) : PipsR w A ndL := by
  refine ⟨pcsL h, ⟨rfl, fun i x cs hx hc => ?_⟩, r2⟩
  match i, hx, hc with
  | 0, hx, hc => cases hx; cases hc; exact ⟨⟨nilS, nilS, _, _, rfl, r0⟩, rfl⟩
  | 1, hx, hc => cases hx; cases hc; exact ⟨⟨nilS, nilS, _, _, rfl, r1⟩, rfl⟩
  | 2, hx, hc => cases hx; cases hc; exact ⟨⟨nilS, nilS, _, _, rfl, Or.inl rfl⟩, rfl⟩
  | k + 3, hx, hc => simp [ndL] at hx
theorem live33_any (w : World) : Gives Try.prog 13 #[] w (.bool true) := by
  obtain ⟨wl, hwl⟩ : ∃ wl : World, ((((w.alloc (.cells #[.int .i64 1, .int .i64 2] 3)).alloc (.cells #[.int .i64 2] 3)).alloc (.cells #[.slice none 0 0, .slice none 0 0, .slice (some ⟨w.heap.size, 0, none⟩) 2 2, .slice none 0 0, .slice none 0 0, .slice (some ⟨w.heap.size + 1, 0, none⟩) 1 1, .slice none 0 0, .slice none 0 0, .slice none 0 0] 82)).alloc (.cells #[.slice none 0 0, .slice none 0 0, .slice (some ⟨w.heap.size + 1 + 1, 0, none⟩) 3 3, .slice none 0 0, .slice none 0 0, .slice none 0 0] 51)) = wl := ⟨_, rfl⟩
  have HG : Hid (Grew w wl) := Lib.hid (by
    rw [← hwl]
    exact ((((Grew.refl w).alloc _).alloc _).alloc _).alloc _)
  have HB : Hid (Blok wl (w.heap.size + 1 + 1 + 1) 51 (plC nilO (some ⟨w.heap.size + 1 + 1, 0, none⟩) 3 3)) := Lib.hid (by
    rw [← hwl]
    exact Blok.new _ _ _ _ (by simp only [World.size_alloc]))
  have HP : Hid (PipsR wl (some ⟨w.heap.size + 1 + 1, 0, none⟩) ndL) := Lib.hid (by
    rw [← hwl]
    refine pipsL (h := w.heap.size) ?_ ?_ ?_
    · exact (row_new w _ _ #[.int .i64 1, .int .i64 2] rfl).grew ((((Grew.refl _).alloc _).alloc _).alloc _)
    · exact (row_new (w.alloc _) _ _ #[.int .i64 2] (by simp only [World.size_alloc])).grew (((Grew.refl _).alloc _).alloc _)
    · exact (row_new ((w.alloc _).alloc _) _ _ #[_, _, _, _, _, _, _, _, _] (by simp only [World.size_alloc])).grew ((Grew.refl _).alloc _))
  have HAc : Hid (∀ W, Grew wl W → Gives Try.prog 16 #[plV nilO (some ⟨w.heap.size + 1 + 1, 0, none⟩) 3 3] W (.bool true)) := Lib.hid fun W hW => by
    have h := acyclic33_any nilO ndL 3 rfl (by omega) ndL_wf ndL_len (some ⟨w.heap.size + 1 + 1, 0, none⟩) 3 W (HP.out.grew hW)
    rw [ndL_ord] at h
    exact h
  have HLe : Hid (∀ W, Grew wl W → Gives Try.prog 34 #[plV nilO (some ⟨w.heap.size + 1 + 1, 0, none⟩) 3 3, .int .i64 0] W (.int .i64 3)) := Lib.hid fun W hW => by
    have h := level33_any nilO ndL 3 rfl (by omega) ndL_wf ndL_len (some ⟨w.heap.size + 1 + 1, 0, none⟩) 3 0 W (HP.out.grew hW)
    rw [ndL_ord, ndL_lev] at h
    exact h
  have HB0 : Hid (∀ W, Gives Try.prog 33 #[.int .i64 0, .int .i64 5] W (.int .i64 1)) := Lib.hid fun W => bat33_any 0 5 (wfI_nat (n := 0) (by omega)) (wfI_nat (n := 5) (by omega)) W
  have HB1 : Hid (∀ W, Gives Try.prog 33 #[.int .i64 11, .int .i64 5] W (.int .i64 3)) := Lib.hid fun W => bat33_any 11 5 (wfI_nat (n := 11) (by omega)) (wfI_nat (n := 5) (by omega)) W
  have HW := Lib.hid hwl
  clear hwl
  unfold plV plC at HAc HLe
  unfold Gives
  go_enter Try.func13, Try.ntmps13
  go_upto_region 2 with fail
  rw [HW.out]
  clear HW
  generalize w.heap.size = h at *
  go_wp2_with (first
    | (go_at_call 33; (with_reducible refine (HB0.out _).grows.mono ?_); rintro e w2 ⟨rfl, hg2⟩; have G2 := Lib.hid hg2; clear hg2)
    | (go_at_call 33; (with_reducible refine (HB1.out _).grows.mono ?_); rintro e w3 ⟨rfl, hg3⟩; have G3 := Lib.hid (G2.out.trans hg3); clear hg3; obtain ⟨b0, d0, d1, b1, d3, d4, d5⟩ := boxP (HB.out.grew G3.out))
    | (go_at_call 16; (with_reducible refine (HAc.out _ G3.out).grows.mono ?_); rintro e w4 ⟨rfl, hg4⟩; have G4 := Lib.hid (G3.out.trans hg4); clear hg4 b0 d0 d1 b1 d3 d4 d5; obtain ⟨b0, d0, d1, b1, d3, d4, d5⟩ := boxP (HB.out.grew G4.out))
    | (go_at_call 34; (with_reducible refine (HLe.out _ G4.out).grows.mono ?_); rintro e w5 ⟨rfl, hg5⟩; have G5 := Lib.hid (G4.out.trans hg5); clear hg5))
  go_ret
  exact ⟨rfl, HG.out.trans G5.out⟩
end Go.Proofs.Ytoaciliojdaoaaa

/- Layer 33: the document's own levels. Condition: no more than a thousand pipes. -/
/- Layer 33: what may go on now, by the program and by the document. Condition: no more than a thousand pipes. -/
namespace Go.Proofs.Ytoaciliojdaoaaa
open Go.RowKit
attribute [local go_sem] more_cell more_frozen more_more more_setCell more_of_drew more_of_drewN lt_more le_more past_cell past_cell2 past_frozen past_frozen2 past_setCell past_setCell2 mid_cell mid_frozen mid_setCell
attribute [local go_sem ↓] Go.wp_at_zero Go.wp_at_succ

def needI (n : Nat) (dn : List Bool) (x : Int) : Bool := decide (x < n) && thI dn.length dn x
def readyI (nd : List (List Int)) (n : Nat) (dn : List Bool) (t : Int) : Bool := decide (0 ≤ t) && (decide (t < n) && (!(thI dn.length dn t) && (edgeAt nd t.toNat).all (needI n dn)))
theorem readyI_low {nd : List (List Int)} {n : Nat} {dn : List Bool} {t : Int} (h : t < 0) : readyI nd n dn t = false := by
  unfold readyI
  rw [decide_eq_false (show ¬ 0 ≤ t by omega)]
  rfl
theorem readyI_high {nd : List (List Int)} {n : Nat} {dn : List Bool} {t : Int} (h : (n : Int) ≤ t) : readyI nd n dn t = false := by
  unfold readyI
  rw [decide_eq_false (show ¬ t < n by omega), Bool.false_and, Bool.and_false]
theorem readyI_is {nd : List (List Int)} {n : Nat} {dn : List Bool} {t : Int} (h : thI dn.length dn t = true) : readyI nd n dn t = false := by
  unfold readyI
  rw [h, Bool.not_true, Bool.false_and, Bool.and_false, Bool.and_false]
theorem readyI_in {nd : List (List Int)} {n t : Nat} {dn : List Bool} (h : t < n) (hf : thI dn.length dn (t : Int) = false) : readyI nd n dn (t : Int) = (edgeAt nd t).all (needI n dn) := by
  unfold readyI
  rw [hf, decide_eq_true (show (0 : Int) ≤ (t : Int) by omega), decide_eq_true (show (t : Int) < (n : Int) by omega), Int.toNat_natCast]
  rfl
theorem is33_any (l : List Bool) (B : Option Addr) (c : Nat) (i : Int) (w : World) (rb : Row w B (bL l)) :
    Gives Try.prog 71 #[.slice B l.length c, .int .i64 i] w (.bool (thI l.length l i)) := by
  have RB := Lib.hid rb
  obtain ⟨t, ht⟩ : ∃ t, thI l.length l i = t := ⟨_, rfl⟩
  rw [ht]
  have HT := Lib.hid ht
  clear rb ht
  unfold Gives
  by_cases h0 : 0 ≤ i
  · obtain ⟨j, rfl⟩ : ∃ j : Nat, i = (j : Int) := ⟨i.toNat, by omega⟩
    have e0 : decide ((0 : Int) ≤ (j : Int)) = true := decide_eq_true h0
    by_cases h2 : (j : Int) < l.length
    · have e2 : decide ((j : Int) < (l.length : Int)) = true := decide_eq_true h2
      obtain ⟨b, o, rfl, hb, hc⟩ := boolrow_at RB.out (show j < l.length by omega)
      obtain rfl : t = thB l j := by rw [← HT.out, thI_nat (by omega)]
      clear HT
      generalize thB l j = q at *
      go_enter Try.func71, Try.ntmps71
      go_wp2
      go_ret
      exact ⟨rfl, by (show Grew _ _; repeat (first | exact Grew.refl _ | refine Grew.alloc ?_ _ | refine Grew.drew ?_ | refine Grew.more ?_ _))⟩
    · have e2 : decide ((j : Int) < (l.length : Int)) = false := decide_eq_false h2
      obtain rfl : t = false := by rw [← HT.out]; unfold thI; rw [e2]; simp
      have h2' : (l.length : Int) ≤ j := by omega
      clear HT h2
      go_enter Try.func71, Try.ntmps71
      go_wp2
      go_ret
      exact ⟨rfl, by (show Grew _ _; repeat (first | exact Grew.refl _ | refine Grew.alloc ?_ _ | refine Grew.drew ?_ | refine Grew.more ?_ _))⟩
  · have e0 : decide ((0 : Int) ≤ i) = false := decide_eq_false h0
    obtain rfl : t = false := by rw [← HT.out]; unfold thI; rw [e0]; simp
    have h0' : i < 0 := by omega
    clear HT h0
    go_enter Try.func71, Try.ntmps71
    go_wp2
    go_ret
    exact ⟨rfl, by (show Grew _ _; repeat (first | exact Grew.refl _ | refine Grew.alloc ?_ _ | refine Grew.drew ?_ | refine Grew.more ?_ _))⟩
theorem ris33_any (l : List Bool) (B : Option Addr) (c : Nat) (i : Int) (w : World) (rb : Row w B (bL l)) :
    Gives Try.prog 72 #[.slice B l.length c, .int .i64 i] w (.bool (thI l.length l i)) := by
  have RB := Lib.hid rb
  obtain ⟨t, ht⟩ : ∃ t, thI l.length l i = t := ⟨_, rfl⟩
  rw [ht]
  have HT := Lib.hid ht
  clear rb ht
  unfold Gives
  by_cases h0 : 0 ≤ i
  · obtain ⟨j, rfl⟩ : ∃ j : Nat, i = (j : Int) := ⟨i.toNat, by omega⟩
    have e0 : decide ((0 : Int) ≤ (j : Int)) = true := decide_eq_true h0
    by_cases h2 : (j : Int) < l.length
    · have e2 : decide ((j : Int) < (l.length : Int)) = true := decide_eq_true h2
      obtain ⟨b, o, rfl, hb, hc⟩ := boolrow_at RB.out (show j < l.length by omega)
      obtain rfl : t = thB l j := by rw [← HT.out, thI_nat (by omega)]
      clear HT
      generalize thB l j = q at *
      go_enter Try.func72, Try.ntmps72
      go_wp2
      go_ret
      exact ⟨rfl, by (show Grew _ _; repeat (first | exact Grew.refl _ | refine Grew.alloc ?_ _ | refine Grew.drew ?_ | refine Grew.more ?_ _))⟩
    · have e2 : decide ((j : Int) < (l.length : Int)) = false := decide_eq_false h2
      obtain rfl : t = false := by rw [← HT.out]; unfold thI; rw [e2]; simp
      have h2' : (l.length : Int) ≤ j := by omega
      clear HT h2
      go_enter Try.func72, Try.ntmps72
      go_wp2
      go_ret
      exact ⟨rfl, by (show Grew _ _; repeat (first | exact Grew.refl _ | refine Grew.alloc ?_ _ | refine Grew.drew ?_ | refine Grew.more ?_ _))⟩
  · have e0 : decide ((0 : Int) ≤ i) = false := decide_eq_false h0
    obtain rfl : t = false := by rw [← HT.out]; unfold thI; rw [e0]; simp
    have h0' : i < 0 := by omega
    clear HT h0
    go_enter Try.func72, Try.ntmps72
    go_wp2
    go_ret
    exact ⟨rfl, by (show Grew _ _; repeat (first | exact Grew.refl _ | refine Grew.alloc ?_ _ | refine Grew.drew ?_ | refine Grew.more ?_ _))⟩
def RdAt (w : World) (n : Nat) (dn : List Bool) (e : List Int) (x : Value) (wr : World) : Prop := ∃ q : Nat, q ≤ e.length ∧ x = .int .i64 q ∧ Grew w wr ∧ ∀ y ∈ e.take q, needI n dn y = true
set_option maxHeartbeats 4000000 in
set_option maxRecDepth 100000 in
theorem ready33_any (o : Oth) (nd : List (List Int)) (n : Nat) (hn : nd.length = n) (hel : ∀ e ∈ nd, e.length ≤ 30) (dn : List Bool) (B : Option Addr) (c : Nat) (A : Option Addr) (k : Nat) (t : Int) (w : World) (ra : PipsR w A nd) (rb : Row w B (bL dn)) :
    Gives Try.prog 47 #[plV o A n k, .slice B dn.length c, .int .i64 t] w (.bool (readyI nd n dn t)) := by
  have RA := Lib.hid ra
  have HEl := Lib.hid hel
  have HN := Lib.hid hn
  have HIs := Lib.hid (fun x W (hW : Grew w W) => is33_any dn B c x W (rb.grew hW))
  obtain ⟨fin, hfin⟩ : ∃ fin, readyI nd n dn t = fin := ⟨_, rfl⟩
  rw [hfin]
  have HFin := Lib.hid hfin
  clear hel ra rb hfin hn
  unfold Gives
  unfold plV at *
  have HB0 : Hid (Blok (w.alloc (.cells (plC o A n k) 51)) w.heap.size 51 (plC o A n k)) := Lib.hid (Blok.new _ _ _ _ rfl)
  have HG0 : Hid (Grew w (w.alloc (.cells (plC o A n k) 51))) := Lib.hid ((Grew.refl w).alloc _)
  by_cases h0 : t < 0
  · have e0 : decide (t < (0 : Int)) = true := decide_eq_true h0
    obtain rfl : fin = false := by rw [← HFin.out]; exact readyI_low h0
    clear HFin
    go_enter Try.func47, Try.ntmps47
    go_wp2
    go_ret
    exact ⟨rfl, HG0.out⟩
  obtain ⟨t, rfl⟩ : ∃ z : Nat, t = (z : Int) := ⟨t.toNat, by omega⟩
  have e0 : decide ((t : Int) < (0 : Int)) = false := decide_eq_false h0
  by_cases h1 : n ≤ t
  · have e1 : decide ((n : Int) ≤ (t : Int)) = true := decide_eq_true (by omega)
    have h1' : (n : Int) ≤ (t : Int) := by omega
    obtain rfl : fin = false := by rw [← HFin.out]; exact readyI_high h1'
    clear HFin h1
    go_enter Try.func47, Try.ntmps47
    go_upto_region 1 with fail
    obtain ⟨w1, hw1⟩ : ∃ w1, w1 = w.alloc (.cells (plC o A n k) 51) := ⟨_, rfl⟩
    rw [← hw1] at HB0 HG0 ⊢
    clear hw1
    generalize w.heap.size = g at *
    obtain ⟨b0, d0, d1, b1, d3, d4, d5⟩ := boxP HB0.out
    go_wp2
    go_ret
    exact ⟨rfl, HG0.out⟩
  have htn : t < n := by omega
  have e1 : decide ((n : Int) ≤ (t : Int)) = false := decide_eq_false (by omega)
  have e1n : decide (n ≤ t) = false := decide_eq_false (by omega)
  have HIt := Lib.hid (fun W (hW : Grew w W) => HIs.out (t : Int) W hW)
  rcases hq : thI dn.length dn (t : Int) with _ | _
  rotate_left
  · rw [hq] at HIt
    obtain rfl : fin = false := by rw [← HFin.out]; exact readyI_is hq
    clear HFin hq
    go_enter Try.func47, Try.ntmps47
    go_upto_region 1 with fail
    obtain ⟨w1, hw1⟩ : ∃ w1, w1 = w.alloc (.cells (plC o A n k) 51) := ⟨_, rfl⟩
    rw [← hw1] at HB0 HG0 ⊢
    clear hw1
    generalize w.heap.size = g at *
    obtain ⟨b0, d0, d1, b1, d3, d4, d5⟩ := boxP HB0.out
    go_wp2_with (go_at_call 71; (with_reducible refine (HIt.out _ HG0.out).grows.mono ?_); rintro e w6 ⟨rfl, hg6⟩; have HG6 := Lib.hid (HG0.out.trans hg6); clear hg6)
    go_ret
    exact ⟨rfl, HG6.out⟩
  rw [hq] at HIt
  have hih : t < nd.length := by rw [HN.out]; exact htn
  have HAl : Hid ((edgeAt nd t).all (needI n dn) = fin) := Lib.hid (by rw [← HFin.out]; exact (readyI_in htn hq).symm)
  rw [edgeAt_eq hih] at HAl
  clear HFin hq h1 h0
  obtain ⟨pb, po, D, d, rfl, hpb, hpc, hpr⟩ := pips_at RA.out hih
  have hl30 := HEl.out _ (List.getElem_mem hih)
  have HP := Lib.hid (fun W (hW : Grew w W) => And.intro (Nat.lt_of_lt_of_le hpb hW.size) (And.intro ((hW.cell (a := ⟨pb, po + t * 3 + 2, none⟩) hpb).trans hpc) (hpr.grew hW)))
  clear hpb hpc hpr
  generalize nd[t] = e at *
  clear hih
  have HNo : Hid (∀ y ∈ e, needI n dn y = false → fin = false) := Lib.hid fun y hy hf => by
    rw [← HAl.out]
    cases hh : e.all (needI n dn)
    · rfl
    · have := List.all_eq_true.1 hh y hy
      rw [hf] at this
      cases this
  have HYes : Hid ((∀ y ∈ e, needI n dn y = true) → fin = true) := Lib.hid fun h => by rw [← HAl.out]; exact List.all_eq_true.2 h
  clear HAl
  go_enter Try.func47, Try.ntmps47
  go_upto_region 1 with fail
  obtain ⟨w1, hw1⟩ : ∃ w1, w1 = w.alloc (.cells (plC o (some ⟨pb, po, none⟩) n k) 51) := ⟨_, rfl⟩
  rw [← hw1] at HB0 HG0 ⊢
  clear hw1
  generalize w.heap.size = g at *
  obtain ⟨b0, d0, d1, b1, d3, d4, d5⟩ := boxP HB0.out
  go_wp2_with (go_at_call 71; (with_reducible refine (HIt.out _ HG0.out).grows.mono ?_); rintro e w6 ⟨rfl, hg6⟩; have HG6 := Lib.hid hg6; clear hg6 b0 d0 d1 b1 d3 d4 d5; obtain ⟨b0, d0, d1, b1, d3, d4, d5⟩ := boxP (HB0.out.grew HG6.out); obtain ⟨p0, p1, _⟩ := HP.out _ (HG0.out.trans HG6.out))
  try clear b0 d0 d1 b1 d3 d4 d5 p0 p1
  try simp only [e1n]
  go_loopw [30] (fun x wr => RdAt w1 n dn e x wr) (fun x _ => e.length - (intOf x).toNat)
  case atStart => exact ⟨0, Nat.zero_le _, rfl, HG6.out, by simp⟩
  case round =>
    obtain ⟨q, hq, rfl, hg, hk⟩ := hrel
    have HG := Lib.hid hg
    have HK := Lib.hid hk
    clear hg hk HG6
    obtain ⟨b0, d0, d1, b1, d3, d4, d5⟩ := boxP (HB0.out.grew HG.out)
    obtain ⟨p0, p1, hpr⟩ := HP.out _ (HG0.out.trans HG.out)
    by_cases h2 : q < e.length
    · obtain ⟨b2, o2, rfl, hb2, hc2⟩ := rowI_at hpr h2
      have HIx := Lib.hid (fun W (hW : Grew w W) => HIs.out e[q] W hW)
      have HN1 := Lib.hid (HNo.out e[q] (List.getElem_mem h2))
      have HT : Hid (needI n dn e[q] = true → ∀ y ∈ e.take (q + 1), needI n dn y = true) := Lib.hid fun h y hy => by
        rw [List.take_succ_eq_append_getElem h2] at hy
        rcases List.mem_append.1 hy with hy | hy
        · exact HK.out y hy
        · rw [List.mem_singleton.1 hy]; exact h
      clear HK HNo
      generalize e[q] = x at *
      by_cases hx : (n : Int) ≤ x
      · have ex : decide ((n : Int) ≤ x) = true := decide_eq_true hx
        obtain rfl : fin = false := HN1.out (by unfold needI; rw [decide_eq_false (show ¬ x < n by omega)]; rfl)
        clear HN1 HT HIx
        go_wp2
        go_ret
        exact ⟨rfl, HG0.out.trans HG.out⟩
      · have ex : decide ((n : Int) ≤ x) = false := decide_eq_false hx
        have ex2 : decide (x < (n : Int)) = true := decide_eq_true (by omega)
        have hne : needI n dn x = thI dn.length dn x := by unfold needI; rw [ex2, Bool.true_and]
        rw [hne] at HT HN1
        rcases hr : thI dn.length dn x with _ | _
        · rw [hr] at HIx
          obtain rfl : fin = false := HN1.out hr
          have hx' : x < (n : Int) := by omega
          clear HN1 HT hr hne hx ex2
          go_wp2_with (go_at_call 71; (with_reducible refine (HIx.out _ (HG0.out.trans HG.out)).grows.mono ?_); rintro e w6 ⟨rfl, hg6⟩; have HG6 := Lib.hid (HG.out.trans hg6); clear hg6)
          go_ret
          exact ⟨rfl, HG0.out.trans HG6.out⟩
        · rw [hr] at HIx
          have HT1 := Lib.hid (HT.out hr)
          have hx' : x < (n : Int) := by omega
          clear HN1 HT hr hne hx ex2
          go_wp2_with (go_at_call 71; (with_reducible refine (HIx.out _ (HG0.out.trans HG.out)).grows.mono ?_); rintro e w6 ⟨rfl, hg6⟩; have HG6 := Lib.hid (HG.out.trans hg6); clear hg6)
          exact ⟨⟨q + 1, by omega, by go_num, HG6.out, HT1.out⟩, by simp only [intOf]; omega⟩
    · obtain rfl : q = e.length := by omega
      rw [List.take_length] at HK
      obtain rfl := HYes.out HK.out
      clear HYes HNo HK
      go_wp2
      go_ret
      exact ⟨rfl, HG0.out.trans HG.out⟩
def rRdAt (w : World) (n : Nat) (dn : List Bool) (e : List Int) (x : Value) (wr : World) : Prop := ∃ q : Nat, q ≤ e.length ∧ x = .int .i64 q ∧ Grew w wr ∧ ∀ y ∈ e.take q, needI n dn y = true
set_option maxHeartbeats 4000000 in
set_option maxRecDepth 100000 in
theorem rready33_any (o : Oth) (nd : List (List Int)) (n : Nat) (hn : nd.length = n) (hel : ∀ e ∈ nd, e.length ≤ 30) (dn : List Bool) (B : Option Addr) (c : Nat) (A : Option Addr) (k : Nat) (t : Int) (w : World) (ra : PipsR w A nd) (rb : Row w B (bL dn)) :
    Gives Try.prog 48 #[plV o A n k, .slice B dn.length c, .int .i64 t] w (.bool (readyI nd n dn t)) := by
  have RA := Lib.hid ra
  have HEl := Lib.hid hel
  have HN := Lib.hid hn
  have HIs := Lib.hid (fun x W (hW : Grew w W) => ris33_any dn B c x W (rb.grew hW))
  obtain ⟨fin, hfin⟩ : ∃ fin, readyI nd n dn t = fin := ⟨_, rfl⟩
  rw [hfin]
  have HFin := Lib.hid hfin
  clear hel ra rb hfin hn
  unfold Gives
  unfold plV at *
  have HB0 : Hid (Blok (w.alloc (.cells (plC o A n k) 51)) w.heap.size 51 (plC o A n k)) := Lib.hid (Blok.new _ _ _ _ rfl)
  have HG0 : Hid (Grew w (w.alloc (.cells (plC o A n k) 51))) := Lib.hid ((Grew.refl w).alloc _)
  by_cases h0 : t < 0
  · have e0 : decide (t < (0 : Int)) = true := decide_eq_true h0
    obtain rfl : fin = false := by rw [← HFin.out]; exact readyI_low h0
    clear HFin
    go_enter Try.func48, Try.ntmps48
    go_wp2
    go_ret
    exact ⟨rfl, HG0.out⟩
  obtain ⟨t, rfl⟩ : ∃ z : Nat, t = (z : Int) := ⟨t.toNat, by omega⟩
  have e0 : decide ((t : Int) < (0 : Int)) = false := decide_eq_false h0
  by_cases h1 : n ≤ t
  · have e1 : decide ((n : Int) ≤ (t : Int)) = true := decide_eq_true (by omega)
    have h1' : (n : Int) ≤ (t : Int) := by omega
    obtain rfl : fin = false := by rw [← HFin.out]; exact readyI_high h1'
    clear HFin h1
    go_enter Try.func48, Try.ntmps48
    go_upto_region 1 with fail
    obtain ⟨w1, hw1⟩ : ∃ w1, w1 = w.alloc (.cells (plC o A n k) 51) := ⟨_, rfl⟩
    rw [← hw1] at HB0 HG0 ⊢
    clear hw1
    generalize w.heap.size = g at *
    obtain ⟨b0, d0, d1, b1, d3, d4, d5⟩ := boxP HB0.out
    go_wp2
    go_ret
    exact ⟨rfl, HG0.out⟩
  have htn : t < n := by omega
  have e1 : decide ((n : Int) ≤ (t : Int)) = false := decide_eq_false (by omega)
  have e1n : decide (n ≤ t) = false := decide_eq_false (by omega)
  have HIt := Lib.hid (fun W (hW : Grew w W) => HIs.out (t : Int) W hW)
  rcases hq : thI dn.length dn (t : Int) with _ | _
  rotate_left
  · rw [hq] at HIt
    obtain rfl : fin = false := by rw [← HFin.out]; exact readyI_is hq
    clear HFin hq
    go_enter Try.func48, Try.ntmps48
    go_upto_region 1 with fail
    obtain ⟨w1, hw1⟩ : ∃ w1, w1 = w.alloc (.cells (plC o A n k) 51) := ⟨_, rfl⟩
    rw [← hw1] at HB0 HG0 ⊢
    clear hw1
    generalize w.heap.size = g at *
    obtain ⟨b0, d0, d1, b1, d3, d4, d5⟩ := boxP HB0.out
    go_wp2_with (go_at_call 72; (with_reducible refine (HIt.out _ HG0.out).grows.mono ?_); rintro e w6 ⟨rfl, hg6⟩; have HG6 := Lib.hid (HG0.out.trans hg6); clear hg6)
    go_ret
    exact ⟨rfl, HG6.out⟩
  rw [hq] at HIt
  have hih : t < nd.length := by rw [HN.out]; exact htn
  have HAl : Hid ((edgeAt nd t).all (needI n dn) = fin) := Lib.hid (by rw [← HFin.out]; exact (readyI_in htn hq).symm)
  rw [edgeAt_eq hih] at HAl
  clear HFin hq h1 h0
  obtain ⟨pb, po, D, d, rfl, hpb, hpc, hpr⟩ := pips_at RA.out hih
  have hl30 := HEl.out _ (List.getElem_mem hih)
  have HP := Lib.hid (fun W (hW : Grew w W) => And.intro (Nat.lt_of_lt_of_le hpb hW.size) (And.intro ((hW.cell (a := ⟨pb, po + t * 3 + 2, none⟩) hpb).trans hpc) (hpr.grew hW)))
  clear hpb hpc hpr
  generalize nd[t] = e at *
  clear hih
  have HNo : Hid (∀ y ∈ e, needI n dn y = false → fin = false) := Lib.hid fun y hy hf => by
    rw [← HAl.out]
    cases hh : e.all (needI n dn)
    · rfl
    · have := List.all_eq_true.1 hh y hy
      rw [hf] at this
      cases this
  have HYes : Hid ((∀ y ∈ e, needI n dn y = true) → fin = true) := Lib.hid fun h => by rw [← HAl.out]; exact List.all_eq_true.2 h
  clear HAl
  go_enter Try.func48, Try.ntmps48
  go_upto_region 1 with fail
  obtain ⟨w1, hw1⟩ : ∃ w1, w1 = w.alloc (.cells (plC o (some ⟨pb, po, none⟩) n k) 51) := ⟨_, rfl⟩
  rw [← hw1] at HB0 HG0 ⊢
  clear hw1
  generalize w.heap.size = g at *
  obtain ⟨b0, d0, d1, b1, d3, d4, d5⟩ := boxP HB0.out
  go_wp2_with (go_at_call 72; (with_reducible refine (HIt.out _ HG0.out).grows.mono ?_); rintro e w6 ⟨rfl, hg6⟩; have HG6 := Lib.hid hg6; clear hg6 b0 d0 d1 b1 d3 d4 d5; obtain ⟨b0, d0, d1, b1, d3, d4, d5⟩ := boxP (HB0.out.grew HG6.out); obtain ⟨p0, p1, _⟩ := HP.out _ (HG0.out.trans HG6.out))
  try clear b0 d0 d1 b1 d3 d4 d5 p0 p1
  try simp only [e1n]
  go_loopw [7] (fun x wr => rRdAt w1 n dn e x wr) (fun x _ => e.length - (intOf x).toNat)
  case atStart => exact ⟨0, Nat.zero_le _, rfl, HG6.out, by simp⟩
  case round =>
    obtain ⟨q, hq, rfl, hg, hk⟩ := hrel
    have HG := Lib.hid hg
    have HK := Lib.hid hk
    clear hg hk HG6
    obtain ⟨b0, d0, d1, b1, d3, d4, d5⟩ := boxP (HB0.out.grew HG.out)
    obtain ⟨p0, p1, hpr⟩ := HP.out _ (HG0.out.trans HG.out)
    by_cases h2 : q < e.length
    · obtain ⟨b2, o2, rfl, hb2, hc2⟩ := rowI_at hpr h2
      have HIx := Lib.hid (fun W (hW : Grew w W) => HIs.out e[q] W hW)
      have HN1 := Lib.hid (HNo.out e[q] (List.getElem_mem h2))
      have HT : Hid (needI n dn e[q] = true → ∀ y ∈ e.take (q + 1), needI n dn y = true) := Lib.hid fun h y hy => by
        rw [List.take_succ_eq_append_getElem h2] at hy
        rcases List.mem_append.1 hy with hy | hy
        · exact HK.out y hy
        · rw [List.mem_singleton.1 hy]; exact h
      clear HK HNo
      generalize e[q] = x at *
      by_cases hx : (n : Int) ≤ x
      · have ex : decide ((n : Int) ≤ x) = true := decide_eq_true hx
        obtain rfl : fin = false := HN1.out (by unfold needI; rw [decide_eq_false (show ¬ x < n by omega)]; rfl)
        clear HN1 HT HIx
        go_wp2
        go_ret
        exact ⟨rfl, HG0.out.trans HG.out⟩
      · have ex : decide ((n : Int) ≤ x) = false := decide_eq_false hx
        have ex2 : decide (x < (n : Int)) = true := decide_eq_true (by omega)
        have hne : needI n dn x = thI dn.length dn x := by unfold needI; rw [ex2, Bool.true_and]
        rw [hne] at HT HN1
        rcases hr : thI dn.length dn x with _ | _
        · rw [hr] at HIx
          obtain rfl : fin = false := HN1.out hr
          have hx' : x < (n : Int) := by omega
          clear HN1 HT hr hne hx ex2
          go_wp2_with (go_at_call 72; (with_reducible refine (HIx.out _ (HG0.out.trans HG.out)).grows.mono ?_); rintro e w6 ⟨rfl, hg6⟩; have HG6 := Lib.hid (HG.out.trans hg6); clear hg6)
          go_ret
          exact ⟨rfl, HG0.out.trans HG6.out⟩
        · rw [hr] at HIx
          have HT1 := Lib.hid (HT.out hr)
          have hx' : x < (n : Int) := by omega
          clear HN1 HT hr hne hx ex2
          go_wp2_with (go_at_call 72; (with_reducible refine (HIx.out _ (HG0.out.trans HG.out)).grows.mono ?_); rintro e w6 ⟨rfl, hg6⟩; have HG6 := Lib.hid (HG.out.trans hg6); clear hg6)
          exact ⟨⟨q + 1, by omega, by go_num, HG6.out, HT1.out⟩, by simp only [intOf]; omega⟩
    · obtain rfl : q = e.length := by omega
      rw [List.take_length] at HK
      obtain rfl := HYes.out HK.out
      clear HYes HNo HK
      go_wp2
      go_ret
      exact ⟨rfl, HG0.out.trans HG.out⟩
end Go.Proofs.Ytoaciliojdaoaaa

/- Layer 33: all that may go on now. Condition: no more than a thousand pipes. -/
namespace Go.Proofs.Ytoaciliojdaoaaa
open Go.RowKit
attribute [local go_sem] more_cell more_frozen more_more more_setCell more_of_drew more_of_drewN lt_more le_more past_cell past_cell2 past_frozen past_frozen2 past_setCell past_setCell2 mid_cell mid_frozen mid_setCell
attribute [local go_sem ↓] Go.wp_at_zero Go.wp_at_succ

def allS (nd : List (List Int)) (n : Nat) (dn : List Bool) (j : Nat) : List Nat := (List.range j).filter fun t => readyI nd n dn (t : Int)
theorem allS_out {nd : List (List Int)} {n : Nat} {dn : List Bool} {j : Nat} (h : readyI nd n dn (j : Int) = false) : allS nd n dn (j + 1) = allS nd n dn j := by
  unfold allS
  rw [List.range_succ, List.filter_append, List.filter_cons, h]
  simp
theorem allS_in {nd : List (List Int)} {n : Nat} {dn : List Bool} {j : Nat} (h : readyI nd n dn (j : Int) = true) : allS nd n dn (j + 1) = allS nd n dn j ++ [j] := by
  unfold allS
  rw [List.range_succ, List.filter_append, List.filter_cons, h]
  simp
theorem allS_len (nd : List (List Int)) (n : Nat) (dn : List Bool) (j : Nat) : (allS nd n dn j).length ≤ j := Nat.le_trans (List.length_filter_le _ _) (by simp)
def AlAt (w : World) (nd : List (List Int)) (n : Nat) (dn : List Bool) (v x : Value) (wr : World) : Prop :=
  ∃ (j : Nat) (A : Option Addr) (c : Nat), j ≤ n ∧ v = .slice A (allS nd n dn j).length c ∧ x = .int .i64 j ∧ Grew w wr ∧ wr.ownsRow w.heap.size 3 1 (.slice A (allS nd n dn j).length c) (allS nd n dn j).length (nL (allS nd n dn j))
theorem all33_any (o : Oth) (nd : List (List Int)) (n : Nat) (hn : nd.length = n) (hn1 : n ≤ 1000) (hel : ∀ e ∈ nd, e.length ≤ 30) (dn : List Bool) (B : Option Addr) (c : Nat) (A : Option Addr) (k : Nat) (w : World) (ra : PipsR w A nd) (rb : Row w B (bL dn)) :
    Calls Try.prog 18 #[plV o A n k, .slice B dn.length c] w (OrdF w (allS nd n dn n)) := by
  have HRe := Lib.hid (fun t W (hW : Grew w W) => ready33_any o nd n hn hel dn B c A k t W (ra.grew hW) (rb.grew hW))
  clear hel ra rb
  unfold plV at *
  have HB0 : Hid (Blok (w.alloc (.cells (plC o A n k) 51)) w.heap.size 51 (plC o A n k)) := Lib.hid (Blok.new _ _ _ _ rfl)
  have HG0 : Hid (Grew w (w.alloc (.cells (plC o A n k) 51))) := Lib.hid ((Grew.refl w).alloc _)
  go_enter Try.func18, Try.ntmps18
  go_upto_region 1 with fail
  obtain ⟨w1, hw1⟩ : ∃ w1, w1 = w.alloc (.cells (plC o A n k) 51) := ⟨_, rfl⟩
  rw [← hw1] at HB0 HG0 ⊢
  clear hw1
  have HLe := Lib.hid HG0.out.size
  have HSz : Hid (w.heap.size ≤ w.heap.size) := Lib.hid (Nat.le_refl _)
  generalize hgg : w.heap.size = g at HB0 ⊢
  obtain ⟨b0, d0, d1, b1, d3, d4, d5⟩ := boxP HB0.out
  go_wp2
  try clear b0 d0 d1 b1 d3 d4 d5
  go_loopw [5, 10] (fun v x wr => AlAt w1 nd n dn v x wr) (fun _ x _ => n - (intOf x).toNat)
  case atStart => exact ⟨0, none, 0, Nat.zero_le _, rfl, rfl, Grew.refl _, own_none _ _ _ _⟩
  case round =>
    obtain ⟨j, A8, c8, hj, rfl, rfl, hg, ho⟩ := hrel
    have HG := Lib.hid hg
    have HO := Lib.hid ho
    clear hg ho
    obtain ⟨b0, d0, d1, b1, d3, d4, d5⟩ := boxP (HB0.out.grew HG.out)
    by_cases h1 : j < n
    · have HRj := Lib.hid (fun W (hW : Grew w W) => HRe.out (j : Int) W hW)
      unfold plC at HRj
      have hll := allS_len nd n dn j
      rcases hr : readyI nd n dn (j : Int) with _ | _
      · rw [hr] at HRj
        have HT := Lib.hid (allS_out hr)
        clear hr
        generalize hoo : allS nd n dn j = oo at *
        clear hoo
        go_wp2_with (go_at_call 47; (with_reducible refine (HRj.out _ (HG0.out.trans HG.out)).grows.mono ?_); rintro e w7 ⟨rfl, hg7⟩; have HG7 := Lib.hid (HG.out.trans hg7); have HO7 := Lib.hid (own_grewU HO.out hg7); clear hg7)
        exact ⟨⟨j + 1, A8, c8, by omega, by rw [HT.out], by go_num, HG7.out, by rw [HT.out]; exact HO7.out⟩, by simp only [intOf]; omega⟩
      · rw [hr] at HRj
        have HT := Lib.hid (allS_in hr)
        clear hr
        generalize hoo : allS nd n dn j = oo at *
        clear hoo
        go_wp2_with (first | (go_at_call 47; (with_reducible refine (HRj.out _ (HG0.out.trans HG.out)).grows.mono ?_); rintro e w7 ⟨rfl, hg7⟩; have HG7 := Lib.hid (HG.out.trans hg7); have HO7 := Lib.hid (own_grewU HO.out hg7); clear hg7) | (at_builtin; refine wpList_app rfl _ _ 30 3 rfl w1 (.int .i64 0) 8 Try.underlying30 infoI rfl (by decide) _ oo.length (nL oo) rfl (own_alloc HO7.out _) _ 1 1 [.int .i64 j] rfl rfl (row_one _ _ _ _ rfl) (by simp [Value.oneCell']) (by omega) (HG7.out.alloc _) ?_; intro A9 c9 w9 ho9 hr9 hg9 hgb9 hor9; have HG9 := Lib.hid hg9; have HO9 := Lib.hid ho9; clear ho9 hr9 hg9 hgb9 hor9))
        exact ⟨⟨j + 1, A9, c9, by omega, by rw [HT.out, List.length_append]; rfl, by go_num, HG9.out, by rw [HT.out, List.length_append, ← nL_snoc]; exact HO9.out⟩, by simp only [intOf]; omega⟩
    · obtain rfl : j = n := by omega
      have HF : Hid (OrdF w (allS nd j dn j) (.returned (.slice A8 (allS nd j dn j).length c8)) wr) := Lib.hid ⟨A8, c8, rfl, HG0.out.trans HG.out, (TRow.own HO.out).low HLe.out⟩
      generalize allS nd j dn j = oo at *
      go_wp2
      all_goals first | exact HF.out | (go_ret; exact HF.out)
theorem rall33_any (o : Oth) (nd : List (List Int)) (n : Nat) (hn : nd.length = n) (hn1 : n ≤ 1000) (hel : ∀ e ∈ nd, e.length ≤ 30) (dn : List Bool) (B : Option Addr) (c : Nat) (A : Option Addr) (k : Nat) (w : World) (ra : PipsR w A nd) (rb : Row w B (bL dn)) :
    Calls Try.prog 20 #[plV o A n k, .slice B dn.length c] w (OrdF w (allS nd n dn n)) := by
  have HRe := Lib.hid (fun t W (hW : Grew w W) => rready33_any o nd n hn hel dn B c A k t W (ra.grew hW) (rb.grew hW))
  clear hel ra rb
  unfold plV at *
  have HB0 : Hid (Blok (w.alloc (.cells (plC o A n k) 51)) w.heap.size 51 (plC o A n k)) := Lib.hid (Blok.new _ _ _ _ rfl)
  have HG0 : Hid (Grew w (w.alloc (.cells (plC o A n k) 51))) := Lib.hid ((Grew.refl w).alloc _)
  go_enter Try.func20, Try.ntmps20
  go_upto_region 1 with fail
  obtain ⟨w1, hw1⟩ : ∃ w1, w1 = w.alloc (.cells (plC o A n k) 51) := ⟨_, rfl⟩
  rw [← hw1] at HB0 HG0 ⊢
  clear hw1
  have HLe := Lib.hid HG0.out.size
  have HSz : Hid (w.heap.size ≤ w.heap.size) := Lib.hid (Nat.le_refl _)
  generalize hgg : w.heap.size = g at HB0 ⊢
  obtain ⟨b0, d0, d1, b1, d3, d4, d5⟩ := boxP HB0.out
  go_wp2
  try clear b0 d0 d1 b1 d3 d4 d5
  go_loopw [5, 6] (fun v x wr => AlAt w1 nd n dn v x wr) (fun _ x _ => n - (intOf x).toNat)
  case atStart => exact ⟨0, none, 0, Nat.zero_le _, rfl, rfl, Grew.refl _, own_none _ _ _ _⟩
  case round =>
    obtain ⟨j, A8, c8, hj, rfl, rfl, hg, ho⟩ := hrel
    have HG := Lib.hid hg
    have HO := Lib.hid ho
    clear hg ho
    obtain ⟨b0, d0, d1, b1, d3, d4, d5⟩ := boxP (HB0.out.grew HG.out)
    by_cases h1 : j < n
    · have HRj := Lib.hid (fun W (hW : Grew w W) => HRe.out (j : Int) W hW)
      unfold plC at HRj
      have hll := allS_len nd n dn j
      rcases hr : readyI nd n dn (j : Int) with _ | _
      · rw [hr] at HRj
        have HT := Lib.hid (allS_out hr)
        clear hr
        generalize hoo : allS nd n dn j = oo at *
        clear hoo
        go_wp2_with (go_at_call 48; (with_reducible refine (HRj.out _ (HG0.out.trans HG.out)).grows.mono ?_); rintro e w7 ⟨rfl, hg7⟩; have HG7 := Lib.hid (HG.out.trans hg7); have HO7 := Lib.hid (own_grewU HO.out hg7); clear hg7)
        exact ⟨⟨j + 1, A8, c8, by omega, by rw [HT.out], by go_num, HG7.out, by rw [HT.out]; exact HO7.out⟩, by simp only [intOf]; omega⟩
      · rw [hr] at HRj
        have HT := Lib.hid (allS_in hr)
        clear hr
        generalize hoo : allS nd n dn j = oo at *
        clear hoo
        go_wp2_with (first | (go_at_call 48; (with_reducible refine (HRj.out _ (HG0.out.trans HG.out)).grows.mono ?_); rintro e w7 ⟨rfl, hg7⟩; have HG7 := Lib.hid (HG.out.trans hg7); have HO7 := Lib.hid (own_grewU HO.out hg7); clear hg7) | (at_builtin; refine wpList_app rfl _ _ 30 3 rfl w1 (.int .i64 0) 8 Try.underlying30 infoI rfl (by decide) _ oo.length (nL oo) rfl (own_alloc HO7.out _) _ 1 1 [.int .i64 j] rfl rfl (row_one _ _ _ _ rfl) (by simp [Value.oneCell']) (by omega) (HG7.out.alloc _) ?_; intro A9 c9 w9 ho9 hr9 hg9 hgb9 hor9; have HG9 := Lib.hid hg9; have HO9 := Lib.hid ho9; clear ho9 hr9 hg9 hgb9 hor9))
        exact ⟨⟨j + 1, A9, c9, by omega, by rw [HT.out, List.length_append]; rfl, by go_num, HG9.out, by rw [HT.out, List.length_append, ← nL_snoc]; exact HO9.out⟩, by simp only [intOf]; omega⟩
    · obtain rfl : j = n := by omega
      have HF : Hid (OrdF w (allS nd j dn j) (.returned (.slice A8 (allS nd j dn j).length c8)) wr) := Lib.hid ⟨A8, c8, rfl, HG0.out.trans HG.out, (TRow.own HO.out).low HLe.out⟩
      generalize allS nd j dn j = oo at *
      go_wp2
      all_goals first | exact HF.out | (go_ret; exact HF.out)
end Go.Proofs.Ytoaciliojdaoaaa

/- Layer 33: the document's own order. Condition: no more than a thousand pipes. -/
namespace Go.Proofs.Ytoaciliojdaoaaa
open Go.RowKit
attribute [local go_sem] more_cell more_frozen more_more more_setCell more_of_drew more_of_drewN lt_more le_more past_cell past_cell2 past_frozen past_frozen2 past_setCell past_setCell2 mid_cell mid_frozen mid_setCell
attribute [local go_sem ↓] Go.wp_at_zero Go.wp_at_succ

theorem allS_step {nd : List (List Int)} {n : Nat} {L : List Bool} (hn : nd.length = n) (hl : L.length = n) : (allS nd n L n).head? = stepR nd L := by
  subst hn
  unfold allS stepR
  rw [List.head?_filter]
  have : ∀ (l : List Nat), (∀ t ∈ l, t < nd.length) → l.find? (fun (t : Nat) => readyI nd nd.length L (t : Int)) = l.find? (rdyN nd L) := by
    intro l
    induction l with
    | nil => intro _; rfl
    | cons t r ih =>
      intro h
      have ht := h t (by simp)
      have e : readyI nd nd.length L (t : Int) = rdyN nd L t := by
        unfold readyI rdyN
        rw [decide_eq_true (show (0 : Int) ≤ (t : Int) by omega), decide_eq_true (show (t : Int) < (nd.length : Int) by omega), hl, thI_nat ht, Int.toNat_natCast]
        rw [Bool.true_and, Bool.true_and]
        congr 1
        congr 1
        funext x
        unfold needI thI
        rw [hl]
        by_cases hx : x < (nd.length : Int)
        · rw [decide_eq_true hx, Bool.true_and]
        · rw [decide_eq_false hx, Bool.false_and, Bool.and_false, Bool.false_and]
      rw [List.find?_cons, List.find?_cons, e, ih fun y hy => h y (by simp [hy])]
  exact this _ fun t ht => List.mem_range.1 ht
structure RoS (w : World) (lb : Nat) (nd : List (List Int)) (k : Nat) (A : Option Addr) (c : Nat) (wr : World) : Prop where
  grew : Grew w wr
  blk : Blok wr lb 4 (bL (ordS nd k).2).toArray
  own : wr.ownsRow (lb + 1) 3 1 (.slice A k c) k (nL (ordS nd k).1)
  len : (ordS nd k).1.length = k
theorem RoS.on {w wr w' : World} {lb k c : Nat} {nd : List (List Int)} {A : Option Addr} (s : RoS w lb nd k A c wr) (g : Grew wr w') : RoS w lb nd k A c w' :=
  ⟨s.grew.trans g, s.blk.grew g, own_grewU s.own g, s.len⟩
def RoAt (w : World) (lb : Nat) (nd : List (List Int)) (n : Nat) (x : Value) (wr : World) : Prop := ∃ (k : Nat) (A : Option Addr) (c : Nat), k ≤ n ∧ x = .slice A k c ∧ RoS w lb nd k A c wr
end Go.Proofs.Ytoaciliojdaoaaa

namespace Go.Proofs.Ytoaciliojdaoaaa
open Go.RowKit
attribute [local go_sem] more_cell more_frozen more_more more_setCell more_of_drew more_of_drewN lt_more le_more past_cell past_cell2 past_frozen past_frozen2 past_setCell past_setCell2 mid_cell mid_frozen mid_setCell
attribute [local go_sem ↓] Go.wp_at_zero Go.wp_at_succ

structure LvR (w : World) (lb : Nat) (lv : List Int) (wr : World) : Prop where
  grew : Grew w wr
  blk : Blok wr lb 3 (iV lv).toArray
theorem LvR.on {w wr w' : World} {lb : Nat} {lv : List Int} (s : LvR w lb lv wr) (g : Grew wr w') : LvR w lb lv w' := ⟨s.grew.trans g, s.blk.grew g⟩
theorem LvR.put {w wr w' : World} {lb : Nat} {lv : List Int} (s : LvR w lb lv wr) (hw : w.heap.size ≤ lb) (i : Nat) (v : Int) (e : w' = wr.setCell ⟨lb, i, none⟩ (.int .i64 v)) : LvR w lb (lv.set i v) w' := by
  subst e
  refine ⟨s.grew.setCell (a := ⟨lb, i, none⟩) hw _, ?_⟩
  rw [← iV_put]
  exact s.blk.set i _
def LrAt (w : World) (lb : Nat) (nd : List (List Int)) (l : List Nat) (x : Value) (wr : World) : Prop := ∃ j : Nat, j ≤ l.length ∧ x = .int .i64 j ∧ LvR w lb (lvS nd (l.take j)) wr
def LrIn (w : World) (lb : Nat) (lv e : List Int) (x9 x10 : Value) (wr : World) : Prop := ∃ q : Nat, q ≤ e.length ∧ x9 = .int .i64 (maxL lv (e.take q)) ∧ x10 = .int .i64 q ∧ LvR w lb lv wr
end Go.Proofs.Ytoaciliojdaoaaa

/- Layer 33: one pipe may go on just if one is left. No condition. -/
namespace Go.Proofs.Ytoaciliojdaoaaa
open Go.RowKit

def leftB (n : Nat) (dn : List Bool) : Bool := (List.range n).any fun t => !(thB dn t)
theorem leftB_iff {n : Nat} {dn : List Bool} : leftB n dn = true ↔ ∃ t, t < n ∧ thB dn t = false := by
  unfold leftB
  rw [List.any_eq_true]
  constructor
  · rintro ⟨t, ht, h⟩
    exact ⟨t, List.mem_range.1 ht, by simpa using h⟩
  · rintro ⟨t, ht, h⟩
    exact ⟨t, List.mem_range.2 ht, by simp [h]⟩
theorem leftB_succ (n : Nat) (dn : List Bool) : leftB (n + 1) dn = (leftB n dn || !(thB dn n)) := by
  unfold leftB
  rw [List.range_succ, List.any_append]
  simp
theorem needI_is {n : Nat} {dn : List Bool} {x : Int} : needI n dn x = thI n dn x := by
  unfold needI thI
  rw [Bool.eq_iff_iff]
  simp only [Bool.and_eq_true, decide_eq_true_eq]
  constructor
  · rintro ⟨h1, ⟨h2, h3⟩, h4⟩
    exact ⟨⟨h2, h1⟩, h4⟩
  · rintro ⟨⟨h2, h1⟩, h4⟩
    refine ⟨h1, ⟨h2, ?_⟩, h4⟩
    by_cases c : x < (dn.length : Int)
    · exact c
    · rw [thB_out (by omega)] at h4
      cases h4
theorem readyI_rdy {nd : List (List Int)} {n t : Nat} {dn : List Bool} (hn : nd.length = n) (h : t < n) : readyI nd n dn (t : Int) = rdyN nd dn t := by
  unfold readyI rdyN
  have e0 : decide (0 ≤ (t : Int)) = true := decide_eq_true (by omega)
  have e1 : decide ((t : Int) < (n : Int)) = true := decide_eq_true (by omega)
  have e2 : thI dn.length dn (t : Int) = thB dn t := by
    rw [Bool.eq_iff_iff]
    unfold thI
    simp only [Bool.and_eq_true, decide_eq_true_eq, Int.toNat_natCast]
    constructor
    · exact fun h => h.2
    · intro h4
      refine ⟨⟨by omega, ?_⟩, h4⟩
      by_cases c : t < dn.length
      · omega
      · rw [thB_out (by omega)] at h4
        cases h4
  have e3 : (fun x => thI nd.length dn x) = needI n dn := by
    funext x
    rw [needI_is, hn]
  rw [e0, e1, e2, e3]
  simp
theorem all_left {n : Nat} {tl : List Int} {nd : List (List Int)} (h : NdP n tl nd) (dn : List Bool) : leftB n dn = decide (0 < (allS nd n dn n).length) := by
  rw [Bool.eq_iff_iff, leftB_iff, h.one dn, decide_eq_true_iff, List.length_pos_iff_exists_mem]
  unfold allS
  constructor
  · rintro ⟨t, ht, hr⟩
    exact ⟨t, List.mem_filter.2 ⟨List.mem_range.2 ht, by rw [readyI_rdy h.len ht]; exact hr⟩⟩
  · rintro ⟨t, ht⟩
    have ht := List.mem_filter.1 ht
    have h1 := List.mem_range.1 ht.1
    exact ⟨t, h1, by rw [← readyI_rdy h.len h1]; exact ht.2⟩
theorem samenat2_any (l : List Nat) (hl : l.length ≤ 1000) (A B : Option Addr) (ka kb : Nat) (w : World) (ra : Row w A (nL l)) (rb : Row w B (nL l)) :
    Gives Try.prog 19 #[.slice A l.length ka, .slice B l.length kb] w (.bool true) := by
  rw [nL_iV] at ra rb
  have h := samelist_any (l.map fun (a : Nat) => (a : Int)) (l.map fun (a : Nat) => (a : Int)) A B ka kb w ra rb (by rw [List.length_map]; omega) (by rw [List.length_map]; omega)
  rw [decide_eq_true rfl, List.length_map] at h
  exact h
end Go.Proofs.Ytoaciliojdaoaaa

/- Layer 31: are two lists of filters the same, by the document: true of equal ones. Condition: memory that is there. -/
namespace Go.Proofs.Ytoaciliojdaoaaa
open Go.RowKit
attribute [local go_sem] more_cell more_frozen more_more more_setCell more_of_drew more_of_drewN lt_more le_more past_cell past_cell2 past_frozen past_frozen2 past_setCell past_setCell2 mid_cell mid_frozen mid_setCell
attribute [local go_sem ↓] Go.wp_at_zero Go.wp_at_succ

def RsmAt (w : World) (n : Nat) (i : Value) (wr : World) : Prop := ∃ q : Nat, q ≤ n ∧ i = .int .i64 q ∧ Grew w wr
set_option maxHeartbeats 8000000 in
set_option maxRecDepth 100000 in
theorem rsame31_any (l : List Fv) (A B : Option Addr) (k j : Nat) (hl : l.length ≤ 2000000) (hc : ∀ x ∈ l, x.a.length ≤ 1000000 ∧ x.b.length ≤ 1000000) (w : World) (ra : FvsR (PRow w) A l) (rb : FvsR (PRow w) B l) :
    Gives Try.prog 10 #[.slice A l.length k, .slice B l.length j] w (.bool true) := by
  have RA := Lib.hid ra
  have RB := Lib.hid rb
  have HSm : Hid (∀ (m : List Int) X x Y y W, m.length ≤ 1000000 → Row W X (iV m) → Row W Y (iV m) → Gives Try.prog 19 #[.slice X m.length x, .slice Y m.length y] W (.bool true)) := Lib.hid fun m X x Y y W hm h1 h2 => by
    have := samelist_any m m X Y x y W h1 h2 (by omega) (by omega)
    rwa [decide_eq_true rfl] at this
  clear ra rb
  unfold Gives
  generalize hll : l.length = ll at *
  have HLl := Lib.hid hll
  clear hll
  go_enter Try.func10, Try.ntmps10
  go_wp2_with fail
  go_loopw [5] (fun i wr => RsmAt w ll i wr) (fun i _ => ll - (intOf i).toNat)
  case atStart => exact ⟨0, Nat.zero_le _, rfl, Grew.refl _⟩
  case round =>
    obtain ⟨q, hq, rfl, hg⟩ := hrel
    have HG := Lib.hid hg
    clear hg
    by_cases hlt : q < ll
    · have hq' : q < l.length := by rw [HLl.out]; exact hlt
      obtain ⟨b, o, X, x, Y, y, rfl, hb, c0, c1, c2, c3, rX, rY⟩ := fvsR_at (RA.out.grew HG.out) hq'
      obtain ⟨b', o', X', x', Y', y', rfl, hb', c0', c1', c2', c3', rX', rY'⟩ := fvsR_at (RB.out.grew HG.out) hq'
      have hcc := hc _ (List.getElem_mem hq')
      generalize l[q] = z at *
      have HA : Hid (∀ W, Grew wr W → b < W.heap.size ∧ W.cell? ⟨b, o + q * 4, none⟩ = some (.int .i64 z.f) ∧ W.cell? ⟨b, o + q * 4 + 1, none⟩ = some (.slice X z.a.length x) ∧ W.cell? ⟨b, o + q * 4 + 2, none⟩ = some (.int .i64 z.t) ∧ W.cell? ⟨b, o + q * 4 + 3, none⟩ = some (.slice Y z.b.length y)) := Lib.hid fun W hW => ⟨Nat.lt_of_lt_of_le hb hW.size, cell_keep hW hb c0, cell_keep hW hb c1, cell_keep hW hb c2, cell_keep hW hb c3⟩
      have HB : Hid (∀ W, Grew wr W → b' < W.heap.size ∧ W.cell? ⟨b', o' + q * 4, none⟩ = some (.int .i64 z.f) ∧ W.cell? ⟨b', o' + q * 4 + 1, none⟩ = some (.slice X' z.a.length x') ∧ W.cell? ⟨b', o' + q * 4 + 2, none⟩ = some (.int .i64 z.t) ∧ W.cell? ⟨b', o' + q * 4 + 3, none⟩ = some (.slice Y' z.b.length y')) := Lib.hid fun W hW => ⟨Nat.lt_of_lt_of_le hb' hW.size, cell_keep hW hb' c0', cell_keep hW hb' c1', cell_keep hW hb' c2', cell_keep hW hb' c3'⟩
      have HS1 : Hid (∀ W, Grew wr W → Gives Try.prog 19 #[.slice X z.a.length x, .slice X' z.a.length x'] W (.bool true)) := Lib.hid fun W hW => HSm.out _ _ _ _ _ W hcc.1 (rX.grew hW) (rX'.grew hW)
      have HS2 : Hid (∀ W, Grew wr W → Gives Try.prog 19 #[.slice Y z.b.length y, .slice Y' z.b.length y'] W (.bool true)) := Lib.hid fun W hW => HSm.out _ _ _ _ _ W hcc.2 (rY.grew hW) (rY'.grew hW)
      have e1 : (z.f != z.f) = false := by simp
      have e2 : (z.t != z.t) = false := by simp
      clear hb c0 c1 c2 c3 rX rY hb' c0' c1' c2' c3' rX' rY' hcc hq' RA RB HSm hc
      have hS0 : Grew wr wr.drew := (Grew.refl wr).drew
      go_upto_region 6 with fail
      refine wp_region_S (fun W => Grew wr W) (by kernel_rfl) ?_
      refine held_take 0 (v := ?_) rfl (by kernel_rfl) (by kernel_rfl) (by kernel_rfl) (fun _ _ _ h => h) (by rfl) ?_ hS0 ?_
      rotate_left
      · (intro W hW; obtain ⟨hb, c0, c1, c2, c3⟩ := HA.out _ hW; obtain ⟨hb', c0', c1', c2', c3'⟩ := HB.out _ hW; go_simp; with_reducible rfl)
      refine held_take 1 (v := ?_) rfl (by kernel_rfl) (by kernel_rfl) (by kernel_rfl) (fun _ _ _ h => h) (by rfl) ?_ hS0 ?_
      rotate_left
      · (intro W hW; obtain ⟨hb, c0, c1, c2, c3⟩ := HA.out _ hW; obtain ⟨hb', c0', c1', c2', c3'⟩ := HB.out _ hW; go_simp; with_reducible rfl)
      refine held_take 2 (v := ?_) rfl (by kernel_rfl) (by kernel_rfl) (by kernel_rfl) (fun _ _ _ h => h) (by rfl) ?_ hS0 ?_
      rotate_left
      · (intro W hW; obtain ⟨hb, c0, c1, c2, c3⟩ := HA.out _ hW; obtain ⟨hb', c0', c1', c2', c3'⟩ := HB.out _ hW; go_simp; with_reducible rfl)
      refine held_take 3 (v := ?_) rfl (by kernel_rfl) (by kernel_rfl) (by kernel_rfl) (fun _ _ _ h => h) (by rfl) ?_ hS0 ?_
      rotate_left
      · (intro W hW; obtain ⟨hb, c0, c1, c2, c3⟩ := HA.out _ hW; obtain ⟨hb', c0', c1', c2', c3'⟩ := HB.out _ hW; go_simp; with_reducible rfl)
      refine held_take 4 (v := ?_) rfl (by kernel_rfl) (by kernel_rfl) (by kernel_rfl) (fun _ _ _ h => h) (by rfl) ?_ hS0 ?_
      rotate_left
      · (intro W hW; obtain ⟨hb, c0, c1, c2, c3⟩ := HA.out _ hW; obtain ⟨hb', c0', c1', c2', c3'⟩ := HB.out _ hW; go_simp; with_reducible rfl)
      refine held_take 5 (v := ?_) rfl (by kernel_rfl) (by kernel_rfl) (by kernel_rfl) (fun _ _ _ h => h) (by rfl) ?_ hS0 ?_
      rotate_left
      · (intro W hW; obtain ⟨hb, c0, c1, c2, c3⟩ := HA.out _ hW; obtain ⟨hb', c0', c1', c2', c3'⟩ := HB.out _ hW; go_simp; with_reducible rfl)
      refine held_take 6 (v := ?_) rfl (by kernel_rfl) (by kernel_rfl) (by kernel_rfl) (fun _ _ _ h => h) (by rfl) ?_ hS0 ?_
      rotate_left
      · (intro W hW; obtain ⟨hb, c0, c1, c2, c3⟩ := HA.out _ hW; obtain ⟨hb', c0', c1', c2', c3'⟩ := HB.out _ hW; go_simp; with_reducible rfl)
      refine held_take 7 (v := ?_) rfl (by kernel_rfl) (by kernel_rfl) (by kernel_rfl) (fun _ _ _ h => h) (by rfl) ?_ hS0 ?_
      rotate_left
      · (intro W hW; obtain ⟨hb, c0, c1, c2, c3⟩ := HA.out _ hW; obtain ⟨hb', c0', c1', c2', c3'⟩ := HB.out _ hW; go_simp; with_reducible rfl)
      refine held_take 8 (v := ?_) rfl (by kernel_rfl) (by kernel_rfl) (by kernel_rfl) (fun _ _ _ h => h) (by rfl) ?_ hS0 ?_
      rotate_left
      · (intro W hW; obtain ⟨hb, c0, c1, c2, c3⟩ := HA.out _ hW; obtain ⟨hb', c0', c1', c2', c3'⟩ := HB.out _ hW; go_simp; with_reducible rfl)
      refine held_take 9 (v := ?_) rfl (by kernel_rfl) (by kernel_rfl) (by kernel_rfl) (fun _ _ _ h => h) (by rfl) ?_ hS0 ?_
      rotate_left
      · (intro W hW; obtain ⟨hb, c0, c1, c2, c3⟩ := HA.out _ hW; obtain ⟨hb', c0', c1', c2', c3'⟩ := HB.out _ hW; go_simp; with_reducible rfl)
      refine held_take 10 (v := ?_) rfl (by kernel_rfl) (by kernel_rfl) (by kernel_rfl) (fun _ _ _ h => h) (by rfl) ?_ hS0 ?_
      rotate_left
      · (intro W hW; obtain ⟨hb, c0, c1, c2, c3⟩ := HA.out _ hW; obtain ⟨hb', c0', c1', c2', c3'⟩ := HB.out _ hW; go_simp; with_reducible rfl)
      refine held_take 11 (v := ?_) rfl (by kernel_rfl) (by kernel_rfl) (by kernel_rfl) (fun _ _ _ h => h) (by rfl) ?_ hS0 ?_
      rotate_left
      · (intro W hW; obtain ⟨hb, c0, c1, c2, c3⟩ := HA.out _ hW; obtain ⟨hb', c0', c1', c2', c3'⟩ := HB.out _ hW; go_simp; with_reducible rfl)
      refine held_norm (a' := ?_) ?_ ?_
      rotate_left
      · (go_simp; with_reducible rfl)
      refine held_take 12 (v := ?_) rfl (by kernel_rfl) (by kernel_rfl) (by kernel_rfl) (fun _ _ _ h => h) (by rfl) ?_ hS0 ?_
      rotate_left
      · (intro W hW; obtain ⟨hb, c0, c1, c2, c3⟩ := HA.out _ hW; go_simp; with_reducible rfl)
      refine held_take 13 (v := ?_) rfl (by kernel_rfl) (by kernel_rfl) (by kernel_rfl) (fun _ _ _ h => h) (by rfl) ?_ hS0 ?_
      rotate_left
      · (intro W hW; obtain ⟨hb, c0, c1, c2, c3⟩ := HA.out _ hW; go_simp; with_reducible rfl)
      refine held_take 14 (v := ?_) rfl (by kernel_rfl) (by kernel_rfl) (by kernel_rfl) (fun _ _ _ h => h) (by rfl) ?_ hS0 ?_
      rotate_left
      · (intro W hW; obtain ⟨hb, c0, c1, c2, c3⟩ := HA.out _ hW; go_simp; with_reducible rfl)
      refine held_take 15 (v := ?_) rfl (by kernel_rfl) (by kernel_rfl) (by kernel_rfl) (fun _ _ _ h => h) (by rfl) ?_ hS0 ?_
      rotate_left
      · (intro W hW; obtain ⟨hb, c0, c1, c2, c3⟩ := HA.out _ hW; go_simp; with_reducible rfl)
      refine held_norm (a' := ?_) ?_ ?_
      rotate_left
      · (go_simp; with_reducible rfl)
      refine held_take 16 (v := ?_) rfl (by kernel_rfl) (by kernel_rfl) (by kernel_rfl) (fun _ _ _ h => h) (by rfl) ?_ hS0 ?_
      rotate_left
      · (intro W hW; obtain ⟨hb, c0, c1, c2, c3⟩ := HA.out _ hW; obtain ⟨hb', c0', c1', c2', c3'⟩ := HB.out _ hW; go_simp; with_reducible rfl)
      refine held_take 17 (v := ?_) rfl (by kernel_rfl) (by kernel_rfl) (by kernel_rfl) (fun _ _ _ h => h) (by rfl) ?_ hS0 ?_
      rotate_left
      · (intro W hW; obtain ⟨hb, c0, c1, c2, c3⟩ := HA.out _ hW; obtain ⟨hb', c0', c1', c2', c3'⟩ := HB.out _ hW; go_simp; with_reducible rfl)
      refine held_take 18 (v := ?_) rfl (by kernel_rfl) (by kernel_rfl) (by kernel_rfl) (fun _ _ _ h => h) (by rfl) ?_ hS0 ?_
      rotate_left
      · (intro W hW; obtain ⟨hb, c0, c1, c2, c3⟩ := HA.out _ hW; obtain ⟨hb', c0', c1', c2', c3'⟩ := HB.out _ hW; go_simp; with_reducible rfl)
      refine held_take 19 (v := ?_) rfl (by kernel_rfl) (by kernel_rfl) (by kernel_rfl) (fun _ _ _ h => h) (by rfl) ?_ hS0 ?_
      rotate_left
      · (intro W hW; obtain ⟨hb, c0, c1, c2, c3⟩ := HA.out _ hW; obtain ⟨hb', c0', c1', c2', c3'⟩ := HB.out _ hW; go_simp; with_reducible rfl)
      refine held_norm (a' := ?_) ?_ ?_
      rotate_left
      · (go_simp; with_reducible rfl)
      refine held_take 20 (v := ?_) rfl (by kernel_rfl) (by kernel_rfl) (by kernel_rfl) (fun _ _ _ h => h) (by rfl) ?_ hS0 ?_
      rotate_left
      · (intro W hW; obtain ⟨hb', c0', c1', c2', c3'⟩ := HB.out _ hW; go_simp; with_reducible rfl)
      refine held_take 21 (v := ?_) rfl (by kernel_rfl) (by kernel_rfl) (by kernel_rfl) (fun _ _ _ h => h) (by rfl) ?_ hS0 ?_
      rotate_left
      · (intro W hW; obtain ⟨hb', c0', c1', c2', c3'⟩ := HB.out _ hW; go_simp; with_reducible rfl)
      refine held_take 22 (v := ?_) rfl (by kernel_rfl) (by kernel_rfl) (by kernel_rfl) (fun _ _ _ h => h) (by rfl) ?_ hS0 ?_
      rotate_left
      · (intro W hW; obtain ⟨hb', c0', c1', c2', c3'⟩ := HB.out _ hW; go_simp; with_reducible rfl)
      refine held_norm (a' := ?_) ?_ ?_
      rotate_left
      · (go_simp; with_reducible rfl)
      refine held_take 23 (v := ?_) rfl (by kernel_rfl) (by kernel_rfl) (by kernel_rfl) (fun _ _ _ h => h) (by rfl) ?_ hS0 ?_
      rotate_left
      · (intro W hW; skip; go_simp; with_reducible rfl)
      refine held_take 24 (v := ?_) rfl (by kernel_rfl) (by kernel_rfl) (by kernel_rfl) (fun _ _ _ h => h) (by rfl) ?_ hS0 ?_
      rotate_left
      · (intro W hW; skip; go_simp; with_reducible rfl)
      refine held_norm (a' := ?_) ?_ ?_
      rotate_left
      · (go_simp; with_reducible rfl)
      refine held_take 25 (v := ?_) rfl (by kernel_rfl) (by kernel_rfl) (by kernel_rfl) (fun _ _ _ h => h) (by rfl) ?_ hS0 ?_
      rotate_left
      · (intro W hW; obtain ⟨hb, c0, c1, c2, c3⟩ := HA.out _ hW; go_simp; with_reducible rfl)
      refine held_take 26 (v := ?_) rfl (by kernel_rfl) (by kernel_rfl) (by kernel_rfl) (fun _ _ _ h => h) (by rfl) ?_ hS0 ?_
      rotate_left
      · (intro W hW; obtain ⟨hb, c0, c1, c2, c3⟩ := HA.out _ hW; go_simp; with_reducible rfl)
      refine held_take 27 (v := ?_) rfl (by kernel_rfl) (by kernel_rfl) (by kernel_rfl) (fun _ _ _ h => h) (by rfl) ?_ hS0 ?_
      rotate_left
      · (intro W hW; obtain ⟨hb, c0, c1, c2, c3⟩ := HA.out _ hW; go_simp; with_reducible rfl)
      refine held_take 28 (v := ?_) rfl (by kernel_rfl) (by kernel_rfl) (by kernel_rfl) (fun _ _ _ h => h) (by rfl) ?_ hS0 ?_
      rotate_left
      · (intro W hW; obtain ⟨hb, c0, c1, c2, c3⟩ := HA.out _ hW; go_simp; with_reducible rfl)
      refine held_norm (a' := ?_) ?_ ?_
      rotate_left
      · (go_simp; with_reducible rfl)
      refine held_take 29 (v := ?_) rfl (by kernel_rfl) (by kernel_rfl) (by kernel_rfl) (fun _ _ _ h => h) (by rfl) ?_ hS0 ?_
      rotate_left
      · (intro W hW; obtain ⟨hb, c0, c1, c2, c3⟩ := HA.out _ hW; obtain ⟨hb', c0', c1', c2', c3'⟩ := HB.out _ hW; go_simp; with_reducible rfl)
      refine held_take 30 (v := ?_) rfl (by kernel_rfl) (by kernel_rfl) (by kernel_rfl) (fun _ _ _ h => h) (by rfl) ?_ hS0 ?_
      rotate_left
      · (intro W hW; obtain ⟨hb, c0, c1, c2, c3⟩ := HA.out _ hW; obtain ⟨hb', c0', c1', c2', c3'⟩ := HB.out _ hW; go_simp; with_reducible rfl)
      refine held_take 31 (v := ?_) rfl (by kernel_rfl) (by kernel_rfl) (by kernel_rfl) (fun _ _ _ h => h) (by rfl) ?_ hS0 ?_
      rotate_left
      · (intro W hW; obtain ⟨hb, c0, c1, c2, c3⟩ := HA.out _ hW; obtain ⟨hb', c0', c1', c2', c3'⟩ := HB.out _ hW; go_simp; with_reducible rfl)
      refine held_take 32 (v := ?_) rfl (by kernel_rfl) (by kernel_rfl) (by kernel_rfl) (fun _ _ _ h => h) (by rfl) ?_ hS0 ?_
      rotate_left
      · (intro W hW; obtain ⟨hb, c0, c1, c2, c3⟩ := HA.out _ hW; obtain ⟨hb', c0', c1', c2', c3'⟩ := HB.out _ hW; go_simp; with_reducible rfl)
      refine held_norm (a' := ?_) ?_ ?_
      rotate_left
      · (go_simp; with_reducible rfl)
      refine held_take 33 (v := ?_) rfl (by kernel_rfl) (by kernel_rfl) (by kernel_rfl) (fun _ _ _ h => h) (by rfl) ?_ hS0 ?_
      rotate_left
      · (intro W hW; obtain ⟨hb', c0', c1', c2', c3'⟩ := HB.out _ hW; go_simp; with_reducible rfl)
      refine held_take 34 (v := ?_) rfl (by kernel_rfl) (by kernel_rfl) (by kernel_rfl) (fun _ _ _ h => h) (by rfl) ?_ hS0 ?_
      rotate_left
      · (intro W hW; obtain ⟨hb', c0', c1', c2', c3'⟩ := HB.out _ hW; go_simp; with_reducible rfl)
      refine held_norm (a' := ?_) ?_ ?_
      rotate_left
      · (go_simp; with_reducible rfl)
      refine held_call 35 (by kernel_rfl) rfl (by rfl) (fun K hK => ?_)
      go_simp
      go_wp2_with ((go_at_call 19; (with_reducible refine (HS1.out _ hS0).grows.mono ?_); rintro e5 w5 ⟨rfl, hg5⟩; have hS5 := hS0.trans hg5))
      refine hK.out _ _ hS5 ?_
      clear hK K
      refine held_take 36 (v := ?_) rfl (by kernel_rfl) (by kernel_rfl) (by kernel_rfl) (fun _ _ _ h => h) (by rfl) ?_ hS5 ?_
      rotate_left
      · (intro W hW; skip; go_simp; with_reducible rfl)
      refine held_take 37 (v := ?_) rfl (by kernel_rfl) (by kernel_rfl) (by kernel_rfl) (fun _ _ _ h => h) (by rfl) ?_ hS5 ?_
      rotate_left
      · (intro W hW; skip; go_simp; with_reducible rfl)
      refine held_take 38 (v := ?_) rfl (by kernel_rfl) (by kernel_rfl) (by kernel_rfl) (fun _ _ _ h => h) (by rfl) ?_ hS5 ?_
      rotate_left
      · (intro W hW; skip; go_simp; with_reducible rfl)
      refine held_norm (a' := ?_) ?_ ?_
      rotate_left
      · (go_simp; with_reducible rfl)
      refine held_take 39 (v := ?_) rfl (by kernel_rfl) (by kernel_rfl) (by kernel_rfl) (fun _ _ _ h => h) (by rfl) ?_ hS5 ?_
      rotate_left
      · (intro W hW; obtain ⟨hb, c0, c1, c2, c3⟩ := HA.out _ hW; go_simp; with_reducible rfl)
      refine held_take 40 (v := ?_) rfl (by kernel_rfl) (by kernel_rfl) (by kernel_rfl) (fun _ _ _ h => h) (by rfl) ?_ hS5 ?_
      rotate_left
      · (intro W hW; obtain ⟨hb, c0, c1, c2, c3⟩ := HA.out _ hW; go_simp; with_reducible rfl)
      refine held_take 41 (v := ?_) rfl (by kernel_rfl) (by kernel_rfl) (by kernel_rfl) (fun _ _ _ h => h) (by rfl) ?_ hS5 ?_
      rotate_left
      · (intro W hW; obtain ⟨hb, c0, c1, c2, c3⟩ := HA.out _ hW; go_simp; with_reducible rfl)
      refine held_take 42 (v := ?_) rfl (by kernel_rfl) (by kernel_rfl) (by kernel_rfl) (fun _ _ _ h => h) (by rfl) ?_ hS5 ?_
      rotate_left
      · (intro W hW; obtain ⟨hb, c0, c1, c2, c3⟩ := HA.out _ hW; go_simp; with_reducible rfl)
      refine held_norm (a' := ?_) ?_ ?_
      rotate_left
      · (go_simp; with_reducible rfl)
      refine held_take 43 (v := ?_) rfl (by kernel_rfl) (by kernel_rfl) (by kernel_rfl) (fun _ _ _ h => h) (by rfl) ?_ hS5 ?_
      rotate_left
      · (intro W hW; obtain ⟨hb, c0, c1, c2, c3⟩ := HA.out _ hW; obtain ⟨hb', c0', c1', c2', c3'⟩ := HB.out _ hW; go_simp; with_reducible rfl)
      refine held_take 44 (v := ?_) rfl (by kernel_rfl) (by kernel_rfl) (by kernel_rfl) (fun _ _ _ h => h) (by rfl) ?_ hS5 ?_
      rotate_left
      · (intro W hW; obtain ⟨hb, c0, c1, c2, c3⟩ := HA.out _ hW; obtain ⟨hb', c0', c1', c2', c3'⟩ := HB.out _ hW; go_simp; with_reducible rfl)
      refine held_take 45 (v := ?_) rfl (by kernel_rfl) (by kernel_rfl) (by kernel_rfl) (fun _ _ _ h => h) (by rfl) ?_ hS5 ?_
      rotate_left
      · (intro W hW; obtain ⟨hb, c0, c1, c2, c3⟩ := HA.out _ hW; obtain ⟨hb', c0', c1', c2', c3'⟩ := HB.out _ hW; go_simp; with_reducible rfl)
      refine held_take 46 (v := ?_) rfl (by kernel_rfl) (by kernel_rfl) (by kernel_rfl) (fun _ _ _ h => h) (by rfl) ?_ hS5 ?_
      rotate_left
      · (intro W hW; obtain ⟨hb, c0, c1, c2, c3⟩ := HA.out _ hW; obtain ⟨hb', c0', c1', c2', c3'⟩ := HB.out _ hW; go_simp; with_reducible rfl)
      refine held_norm (a' := ?_) ?_ ?_
      rotate_left
      · (go_simp; with_reducible rfl)
      refine held_take 47 (v := ?_) rfl (by kernel_rfl) (by kernel_rfl) (by kernel_rfl) (fun _ _ _ h => h) (by rfl) ?_ hS5 ?_
      rotate_left
      · (intro W hW; obtain ⟨hb', c0', c1', c2', c3'⟩ := HB.out _ hW; go_simp; with_reducible rfl)
      refine held_take 48 (v := ?_) rfl (by kernel_rfl) (by kernel_rfl) (by kernel_rfl) (fun _ _ _ h => h) (by rfl) ?_ hS5 ?_
      rotate_left
      · (intro W hW; obtain ⟨hb', c0', c1', c2', c3'⟩ := HB.out _ hW; go_simp; with_reducible rfl)
      refine held_norm (a' := ?_) ?_ ?_
      rotate_left
      · (go_simp; with_reducible rfl)
      refine held_call 49 (by kernel_rfl) rfl (by rfl) (fun K hK => ?_)
      go_simp
      go_wp2_with ((go_at_call 19; (with_reducible refine (HS2.out _ hS5).grows.mono ?_); rintro e6 w6 ⟨rfl, hg6⟩; have hS6 := hS5.trans hg6))
      refine hK.out _ _ hS6 ?_
      clear hK K
      refine held_take 50 (v := ?_) rfl (by kernel_rfl) (by kernel_rfl) (by kernel_rfl) (fun _ _ _ h => h) (by rfl) ?_ hS6 ?_
      rotate_left
      · (intro W hW; skip; go_simp; with_reducible rfl)
      refine held_take 51 (v := ?_) rfl (by kernel_rfl) (by kernel_rfl) (by kernel_rfl) (fun _ _ _ h => h) (by rfl) ?_ hS6 ?_
      rotate_left
      · (intro W hW; skip; go_simp; with_reducible rfl)
      refine held_norm (a' := ?_) ?_ ?_
      rotate_left
      · (go_simp; with_reducible rfl)
      refine held_done (by kernel_rfl) ?_
      have HG6 := Lib.hid (HG.out.trans hS6)
      clear hS6 hg6 hS5 hg5 hS0
      go_wp2_with fail
      exact ⟨⟨q + 1, by omega, by go_num, HG6.out⟩, by simp only [intOf]; omega⟩
    · obtain rfl : q = ll := by omega
      go_wp2
      go_ret
      exact ⟨rfl, HG.out⟩
end Go.Proofs.Ytoaciliojdaoaaa

/- Layers 32 and 33: the plan of any query's conditions, and what is known of its pipes. Condition: a small query; an order and filters that lie in memory that is there. -/
namespace Go.Proofs.Ytoaciliojdaoaaa
open Go.RowKit
attribute [local go_sem] more_cell more_frozen more_more more_setCell more_of_drew more_of_drewN lt_more le_more past_cell past_cell2 past_frozen past_frozen2 past_setCell past_setCell2 mid_cell mid_frozen mid_setCell
attribute [local go_sem ↓] Go.wp_at_zero Go.wp_at_succ

/-- What plan.Of hands back, of m pipes. -/
def PlaM (w : World) (m : Nat) (tl : List Int) (nd : List (List Int)) (e : Ending) (w' : World) : Prop := ∃ (ot : Oth) (A : Option Addr) (k : Nat), e = .returned (.agg (plC ot A m k)) ∧ ot.p0.n = tl.length ∧ Grew w w' ∧ PipsR w' A nd ∧ Row w' ot.p0.a (iV tl)
theorem plaM_of {w w' : World} {m : Nat} {tl : List Int} {nd : List (List Int)} {e : Ending} (hm : nd.length = m) (h : PlaF w tl nd e w') : PlaM w m tl nd e w' := by
  obtain ⟨O, o, p1, p3, p4, p5, A, k, e1, hg, hp, hr⟩ := h
  exact ⟨⟨⟨O, tl.length, o⟩, p1, p3, p4, p5⟩, A, k, by rw [e1, hm]; rfl, rfl, hg, hp, hr⟩
/-- The plan of a query's conditions: as many pipes as sources, and what is known of them. -/
theorem planM_any (sr : List Fr) (wh : Ex) (order : List Int) (fs : List Fv) (S : Option Addr) (ks : Nat) (Fa : Option Addr) (fk : Nat) (hcap : order.length ≤ ks) (hs : sr.length ≤ 12) (hn : ∀ f ∈ sr, f.on.nodes ≤ 200) (hw : wh.nodes ≤ 200) (ho : order.length ≤ 20) (hf : fs.length ≤ 20) :
    ∃ (tl : List Int) (nd : List (List Int)), NdP sr.length tl nd ∧ (0 < sr.length → ∃ dr : Nat, tl.head? = some (dr : Int) ∧ (ordS nd sr.length).1[sr.length - 1]? = some dr) ∧
      ∀ (A : Option Addr) (k : Nat) (B : Option Addr) (j : Nat) (C : Option Addr) (c : Nat) (D : Option Addr) (d : Nat) (E : Option Addr) (en : Nat) (w : World), NmR (PRow w) (normX sr wh) A B C D E → Row w S (iV order) → FvsR (PRow w) Fa fs →
        Calls Try.prog 14 #[.agg (nmC (normX sr wh) A k B j C c D d E en), .slice S order.length ks, .slice Fa fs.length fk] w (PlaM w sr.length tl nd) := by
  have hb := nmB_of hs hn hw
  have hsum := n31_sum sr wh
  have hsc := n31_scan sr wh
  have hp0 : 0 < sr.length → 0 < coreN sr := core_pos
  generalize normX sr wh = nx at *
  have hnd := ndP_of (core := nx.scan.length) (l := nx.late) (cl := clI (clsE nx.edges)) (tl := tabsP nx.scan.length order) (fs := fs) (by omega) hf tabsP_all hb.keys
  rw [hsum] at hnd
  refine ⟨_, _, hnd, fun h => ?_, fun A k B j C c D d E en w hm hS hF => ?_⟩
  · obtain ⟨dr, h1, h2⟩ := tabs_head (n := nx.scan.length) order (by have := hp0 h; omega)
    exact ⟨dr, h1, hnd.last dr h1 (by omega)⟩
  · refine (pof_any nx.core nx.scan nx.edges nx.rest nx.late nx.wh order fs S ks Fa fk A k B j C c D d E en w (by omega) (by omega) hb.edges hb.keys (by omega) hcap hb.rest hb.node hb.wh hb.scan hb.lscan hb.lrest hm.scan hm.edges hm.rest hm.late hm.wh hS hF).mono fun e w' h => ?_
    rw [hsum] at h
    exact plaM_of hnd.len h
end Go.Proofs.Ytoaciliojdaoaaa

/- Layer 33: the law of one pipe that may go on, for any query's plan, walked. Condition: a query, an order and filters that lie in memory that is there. -/
namespace Go.Proofs.Ytoaciliojdaoaaa
open Go.RowKit
attribute [local go_sem] more_cell more_frozen more_more more_setCell more_of_drew more_of_drewN lt_more le_more past_cell past_cell2 past_frozen past_frozen2 past_setCell past_setCell2 mid_cell mid_frozen mid_setCell
attribute [local go_sem ↓] Go.wp_at_zero Go.wp_at_succ

def RoLAt (u : World) (m : Nat) (dn : List Bool) (l i : Value) (wr : World) : Prop := ∃ q : Nat, q ≤ m ∧ l = .bool (leftB q dn) ∧ i = .int .i64 q ∧ Grew u wr
set_option maxHeartbeats 16000000 in
set_option maxRecDepth 100000 in
theorem readyOne_walk (it : List Ex) (sr : List Fr) (wh : Ex) (gr : List Ex) (A : Option Addr) (k : Nat) (B : Option Addr) (j : Nat) (C : Option Addr) (c : Nat) (D : Option Addr) (d : Nat) (order : List Int) (S : Option Addr) (ks : Nat) (fs : List Fv) (Fa : Option Addr) (fk : Nat) (dn : List Bool) (Ba : Option Addr) (bk : Nat) (hcap : order.length ≤ ks) (w : World)
    (rA : ExsR (PRow w) A it) (rB : FrsR (PRow w) B sr) (rC : ExsR (PRow w) C wh.l) (rD : ExsR (PRow w) D gr) (rS : Row w S (iV order)) (rF : FvsR (PRow w) Fa fs) (rB0 : Row w Ba (bL dn)) :
    Gives Try.prog 5 #[.agg (qyC it sr wh gr A k B j C c D d), .slice S order.length ks, .slice Fa fs.length fk, .slice Ba dn.length bk] w (.bool true) := by
  have HMq : Hid (∀ W, Grew w W → Calls Try.prog 6 #[.agg (qyC it sr wh gr A k B j C c D d)] W (MuchR W (goodQ ⟨it, sr, wh, gr⟩))) := Lib.hid fun W hW => muchq_any it sr wh gr A k B j C c D d W (rA.grew hW) (rB.grew hW) (rC.grew hW) (rD.grew hW)
  have HLv : Hid (∀ W, Gives Try.prog 13 #[] W (.bool true)) := Lib.hid live33_any
  have RB := Lib.hid rB
  have RC := Lib.hid rC
  have RS := Lib.hid rS
  have RF := Lib.hid rF
  have HCap := Lib.hid hcap
  clear rA rB rC rD rS rF hcap
  have RDn := Lib.hid rB0
  clear rB0
  have HPl := Lib.hid (planM_any sr wh order fs S ks Fa fk HCap.out)
  obtain ⟨ol, hol⟩ : ∃ ol, order.length = ol := ⟨_, rfl⟩
  rw [hol] at HPl HCap ⊢
  clear hol
  obtain ⟨fl, hfl⟩ : ∃ fl, fs.length = fl := ⟨_, rfl⟩
  rw [hfl] at HPl ⊢
  clear hfl
  unfold Gives
  unfold qyC at *
  go_enter Try.func5, Try.ntmps5
  go_upto_region 1 with fail
  obtain ⟨W0, hW0⟩ : ∃ W0, W0 = (w.alloc (.cells (qyC it sr wh gr A k B j C c D d) 29)) := ⟨_, rfl⟩
  have HBq : Hid (Blok W0 w.heap.size 29 (qyC it sr wh gr A k B j C c D d)) := Lib.hid (by rw [hW0]; exact (Blok.new _ _ _ _ rfl))
  have HG0 : Hid (Grew w W0) := Lib.hid (by rw [hW0]; exact ((Grew.refl w).alloc _))
  unfold qyC at hW0
  rw [← hW0]
  clear hW0
  generalize hbq : w.heap.size = bq at *
  clear hbq
  obtain ⟨xl, x0, x1, x2, x3, x4, x5, x6, x7, x8, x9, x10, x11⟩ := qy_in HBq.out
  go_wp2_with fail
  refine (HMq.out _ HG0.out).mono ?_
  rintro e w1 ⟨t1, rfl, hg1, hq1⟩
  have HG1 := Lib.hid (HG0.out.trans hg1)
  have HBq1 := Lib.hid (HBq.out.grew hg1)
  clear hg1 HBq HG0 xl x0 x1 x2 x3 x4 x5 x6 x7 x8 x9 x10 x11
  cases t1
  rotate_left
  · go_wp2_with (go_at_call 13; (with_reducible refine (HLv.out _).grows.mono ?_); rintro e9 w9 ⟨rfl, hg9⟩; have HG9 := Lib.hid hg9; clear hg9)
    go_ret
    exact ⟨rfl, HG1.out.trans HG9.out⟩
  by_cases h20 : 20 < ol
  · have e1 : decide ((20 : Int) < (ol : Int)) = true := decide_eq_true (by omega)
    have e2 : (20 : Int) < (ol : Int) := by omega
    clear hq1 h20
    go_wp2_with (go_at_call 13; (with_reducible refine (HLv.out _).grows.mono ?_); rintro e9 w9 ⟨rfl, hg9⟩; have HG9 := Lib.hid hg9; clear hg9)
    go_ret
    exact ⟨rfl, HG1.out.trans HG9.out⟩
  have e20 : decide ((20 : Int) < (ol : Int)) = false := decide_eq_false (by omega)
  have e21 : ¬ (20 : Int) < (ol : Int) := by omega
  by_cases h22 : 20 < fl
  · have e1 : decide ((20 : Int) < (fl : Int)) = true := decide_eq_true (by omega)
    have e2 : (20 : Int) < (fl : Int) := by omega
    clear hq1 h22
    go_wp2_with (go_at_call 13; (with_reducible refine (HLv.out _).grows.mono ?_); rintro e9 w9 ⟨rfl, hg9⟩; have HG9 := Lib.hid hg9; clear hg9)
    go_ret
    exact ⟨rfl, HG1.out.trans HG9.out⟩
  have e22 : decide ((20 : Int) < (fl : Int)) = false := decide_eq_false (by omega)
  have e23 : ¬ (20 : Int) < (fl : Int) := by omega
  have hgq : goodQ ⟨it, sr, wh, gr⟩ := hq1 rfl
  clear hq1 HMq
  obtain ⟨tl, nd, hnd, hlast, hpl⟩ := HPl.out hgq.src hgq.on hgq.wh (by omega) (by omega)
  have HNd := Lib.hid hnd
  have HLast := Lib.hid hlast
  have HPo := Lib.hid hpl
  clear hnd hlast hpl HPl h20 h22
  have hsr12 : sr.length ≤ 12 := hgq.src
  have HOr : Hid (∀ W, Grew w W → Calls Try.prog 8 #[.agg (qyC it sr wh gr A k B j C c D d)] W (NormF W (normX sr wh))) := Lib.hid fun W hW => nrof_any it sr wh gr A k B j C c D d W (by omega) hgq.on hgq.wh (RB.out.grew hW) (RC.out.grew hW)
  clear hgq RC
  generalize normX sr wh = nx at *
  unfold qyC at *
  obtain ⟨xl, x0, x1, x2, x3, x4, x5, x6, x7, x8, x9, x10, x11⟩ := qy_in HBq1.out
  unfold nmC at HPo
  go_upto_region 4 with (first | (go_at_call 8; (with_reducible refine (HOr.out _ HG1.out).mono ?_); rintro e2 w2 ⟨A1, k1, B1, j1, C1, c1, D1, d1, E1, f1, rfl, hg2, hm2⟩; unfold nmC; have HG2 := Lib.hid (HG1.out.trans hg2); have HG12 := Lib.hid hg2; have HM2 := Lib.hid hm2; clear hg2 hm2) | (go_at_call 14; (with_reducible refine (HPo.out A1 k1 B1 j1 C1 c1 D1 d1 E1 f1 _ HM2.out (RS.out.grew HG2.out) (RF.out.grew HG2.out)).mono ?_); rintro e3 w3 ⟨ot, A2, k2, rfl, hn2, hg3, hp3, ho3⟩; unfold plC; have HG3 := Lib.hid (HG2.out.trans hg3); have HG13 := Lib.hid (HG12.out.trans hg3); have HP3 := Lib.hid hp3; have HO3 := Lib.hid ho3; have HN2 := Lib.hid hn2; clear hg3 hp3 ho3 hn2))
  clear HM2 HOr HPo xl x0 x1 x2 x3 x4 x5 x6 x7 x8 x9 x10 x11 HG1 HG2 HG12 RB RF RS HCap e20 e21 e22 e23
  have HQ1 : Hid (∀ W, Grew w1 W → bq < W.heap.size ∧ W.cell? ⟨bq, 1, none⟩ = some (.slice B sr.length j)) := Lib.hid fun W hW => by
    obtain ⟨xl, x0, x1, x2, x3, x4, x5, x6, x7, x8, x9, x10, x11⟩ := qy_in (HBq1.out.grew hW)
    exact ⟨xl, x1⟩
  generalize sr.length = m at *
  obtain ⟨W1, hW1⟩ : ∃ W1, W1 = (w3.alloc (.cells (plC ot A2 m k2) 51)) := ⟨_, rfl⟩
  have HBp : Hid (Blok W1 w3.heap.size 51 (plC ot A2 m k2)) := Lib.hid (by rw [hW1]; exact Blok.new _ _ _ _ rfl)
  have HG13' : Hid (Grew w1 W1) := Lib.hid (by rw [hW1]; exact HG13.out.alloc _)
  have HG4 : Hid (Grew w W1) := Lib.hid (by rw [hW1]; exact HG3.out.alloc _)
  have HG34 : Hid (Grew w3 W1) := Lib.hid (by rw [hW1]; exact (Grew.refl w3).alloc _)
  unfold plC at hW1
  rw [← hW1]
  clear hW1
  generalize w3.heap.size = bp at *
  have HQ2 : Hid (∀ W, Grew W1 W → bq < W.heap.size ∧ W.cell? ⟨bq, 1, none⟩ = some (.slice B m j)) := Lib.hid fun W hW => HQ1.out W (HG13'.out.trans hW)
  have HP4 := Lib.hid (HP3.out.grew HG34.out)
  have HO4 := Lib.hid (HO3.out.grew HG34.out)
  clear HP3 HO3 HG13 HG13' HG34 HG3 HBq1 HQ1
  have hal : (allS nd m dn m).length ≤ m := allS_len _ _ _ _
  have hlf : leftB m dn = decide (0 < (allS nd m dn m).length) := all_left HNd.out dn
  have hall : ∀ W, Grew W1 W → Calls Try.prog 18 #[.agg (plC ot A2 m k2), .slice Ba dn.length bk] W (OrdF W (allS nd m dn m)) := fun W hW => all33_any ot nd m HNd.out.len (by omega) HNd.out.few dn Ba bk A2 k2 W (HP4.out.grew hW) (RDn.out.grew (HG4.out.trans hW))
  have halr : ∀ W, Grew W1 W → Calls Try.prog 20 #[.agg (plC ot A2 m k2), .slice Ba dn.length bk] W (OrdF W (allS nd m dn m)) := fun W hW => rall33_any ot nd m HNd.out.len (by omega) HNd.out.few dn Ba bk A2 k2 W (HP4.out.grew hW) (RDn.out.grew (HG4.out.trans hW))
  generalize allS nd m dn m = al at *
  obtain ⟨an, han⟩ : ∃ an, al.length = an := ⟨_, rfl⟩
  have HSa := Lib.hid (fun A B ka kb w => samenat2_any al (by omega) A B ka kb w)
  rw [han] at HSa hlf
  have HLf := Lib.hid hlf
  have HAl : Hid (∀ W, Grew W1 W → Calls Try.prog 18 #[.agg (plC ot A2 m k2), .slice Ba dn.length bk] W fun e w' => ∃ A c, e = .returned (.slice A an c) ∧ Grew W w' ∧ Row w' A (nL al)) := Lib.hid fun W hW => (hall W hW).mono fun e w' h => by
    obtain ⟨A, c, e1, hg, hr⟩ := h
    exact ⟨A, c, by rw [e1, han], hg, hr.plain⟩
  have HAr : Hid (∀ W, Grew W1 W → Calls Try.prog 20 #[.agg (plC ot A2 m k2), .slice Ba dn.length bk] W fun e w' => ∃ A c, e = .returned (.slice A an c) ∧ Grew W w' ∧ Row w' A (nL al)) := Lib.hid fun W hW => (halr W hW).mono fun e w' h => by
    obtain ⟨A, c, e1, hg, hr⟩ := h
    exact ⟨A, c, by rw [e1, han], hg, hr.plain⟩
  clear hal hlf hall halr han
  have HRd := Lib.hid (RDn.out.grew HG4.out)
  clear HP4 HO4 HNd HLast HN2 RDn
  obtain ⟨b0, d0, d1, b1, d3, d4, d5⟩ := boxP HBp.out
  go_wp2_with fail
  go_loopw [10, 11] (fun l i wr => RoLAt W1 m dn l i wr) (fun _ i _ => m - (intOf i).toNat)
  case atStart => exact ⟨0, Nat.zero_le _, rfl, rfl, Grew.refl _⟩
  case round =>
    obtain ⟨q, hq, rfl, rfl, hg⟩ := hrel
    have HG := Lib.hid hg
    clear hg
    obtain ⟨b0, d0, d1, b1, d3, d4, d5⟩ := boxP (HBp.out.grew HG.out)
    by_cases hlt : q < m
    · have HSu := Lib.hid (leftB_succ q dn)
      cases hb : leftB q dn with
      | true =>
        have HX : Hid (leftB (q + 1) dn = true) := Lib.hid (by rw [HSu.out, hb]; rfl)
        clear HSu hb
        go_wp2
        exact ⟨⟨q + 1, by omega, by rw [HX.out], by go_num, HG.out⟩, by simp only [intOf]; omega⟩
      | false =>
        by_cases hd : q < dn.length
        · obtain ⟨b7, o7, rfl, hb7, hc7⟩ := boolrow_at (HRd.out.grew HG.out) hd
          have e1 : decide ((dn.length : Int) ≤ (q : Int)) = false := decide_eq_false (by omega)
          have e1n : decide (dn.length ≤ q) = false := decide_eq_false (by omega)
          have hd' : (q : Int) < dn.length := by omega
          have HX : Hid (leftB (q + 1) dn = !(thB dn q)) := Lib.hid (by rw [HSu.out, hb]; rfl)
          generalize thB dn q = bq at *
          clear HSu hb hd
          cases bq
          all_goals
            go_wp2
            exact ⟨⟨q + 1, by omega, by rw [HX.out]; rfl, by go_num, HG.out⟩, by simp only [intOf]; omega⟩
        · have e1 : decide ((dn.length : Int) ≤ (q : Int)) = true := decide_eq_true (by omega)
          have hd' : (dn.length : Int) ≤ (q : Int) := by omega
          have HX : Hid (leftB (q + 1) dn = true) := Lib.hid (by rw [HSu.out, hb, thB_out hd]; rfl)
          clear HSu hb hd
          go_wp2
          exact ⟨⟨q + 1, by omega, by rw [HX.out], by go_num, HG.out⟩, by simp only [intOf]; omega⟩
    · obtain rfl : q = m := by omega
      unfold plC at HAl HAr
      go_upto_region 10 with (go_at_call 18; (with_reducible refine (HAl.out _ HG.out).mono ?_); rintro e4 w4 ⟨A4, c4, rfl, hg4, hr4⟩; have HG5 := Lib.hid (HG.out.trans hg4); have HR4 := Lib.hid hr4; clear hg4 hr4)
      clear b0 d0 d1 b1 d3 d4 d5 HAl
      obtain ⟨b0, d0, d1, b1, d3, d4, d5⟩ := boxP (HBp.out.grew HG5.out)
      obtain ⟨xl, x1⟩ := HQ2.out _ HG5.out
      have heq : ((q : Int) == (q : Int)) = true := by simp
      by_cases h0 : 0 < an
      · have e0 : decide ((0 : Int) < (an : Int)) = true := decide_eq_true (by omega)
        have e0n : decide (0 < an) = true := decide_eq_true h0
        have e00 : (0 : Int) < (an : Int) := by omega
        have hlb : leftB q dn = true := by rw [HLf.out, decide_eq_true h0]
        rw [hlb]
        clear hlb h0 HLf
        go_wp2_with (first | (go_at_call 20; (with_reducible refine (HAr.out _ HG5.out).mono ?_); rintro e5 w5 ⟨A5, c5, rfl, hg5, hr5⟩; have HG6 := Lib.hid (HG5.out.trans hg5); have HR5 := Lib.hid hr5; have HR6 := Lib.hid (HR4.out.grew hg5); clear hg5 hr5) | (go_at_call 19; (with_reducible refine (HSa.out _ _ _ _ _ HR6.out HR5.out).grows.mono ?_); rintro e6 w6 ⟨rfl, hg6⟩; have HG7 := Lib.hid (HG6.out.trans hg6); clear hg6) | (go_at_call 13; (with_reducible refine (HLv.out _).grows.mono ?_); rintro e9 w9 ⟨rfl, hg9⟩; have HG9 := Lib.hid hg9; clear hg9))
        go_ret
        exact ⟨rfl, HG4.out.trans (HG7.out.trans HG9.out)⟩
      · have e0 : decide ((0 : Int) < (an : Int)) = false := decide_eq_false (by omega)
        have e0n : decide (0 < an) = false := decide_eq_false h0
        have e00 : ¬ (0 : Int) < (an : Int) := by omega
        have hlb : leftB q dn = false := by rw [HLf.out, decide_eq_false h0]
        rw [hlb]
        clear hlb h0 HLf
        go_wp2_with (first | (go_at_call 20; (with_reducible refine (HAr.out _ HG5.out).mono ?_); rintro e5 w5 ⟨A5, c5, rfl, hg5, hr5⟩; have HG6 := Lib.hid (HG5.out.trans hg5); have HR5 := Lib.hid hr5; have HR6 := Lib.hid (HR4.out.grew hg5); clear hg5 hr5) | (go_at_call 19; (with_reducible refine (HSa.out _ _ _ _ _ HR6.out HR5.out).grows.mono ?_); rintro e6 w6 ⟨rfl, hg6⟩; have HG7 := Lib.hid (HG6.out.trans hg6); clear hg6) | (go_at_call 13; (with_reducible refine (HLv.out _).grows.mono ?_); rintro e9 w9 ⟨rfl, hg9⟩; have HG9 := Lib.hid hg9; clear hg9))
        go_ret
        exact ⟨rfl, HG4.out.trans (HG7.out.trans HG9.out)⟩
end Go.Proofs.Ytoaciliojdaoaaa

/- How long a slice of ints may be that comes in: no longer than its room. No condition. -/
namespace Go.Proofs.Ytoaciliojdaoaaa
open Go.RowKit Go.ChangeShapes Go.WideShapes Go.ChangeAt
section
variable {H : Type} {enc : TypeId × Value → H} {P : Program}
theorem open_islice_capO {W : World} {t e : TypeId} {k : IntKind} {d : DataW H} {p : List MemPlace} {A : Option Addr} {n c : Nat} (ht : P.underlying t = some (.slice e)) (he : P.underlying e = some (.int k)) (hc : P.cellsOf e = 1)
    (h : DataW.Trod enc P W 0 (fun _ => true) true t (.slice A n c) d p) : n ≤ c := by
  obtain ⟨fuel, hf⟩ := h
  rcases open_ints ht he hc hf with ⟨hcs, _⟩ | ⟨a, len', cap', zs, hcs, _, hl, hm, hz, hx, hcell, hwz⟩
  · simp [Value.cells] at hcs
    obtain ⟨rfl, rfl, rfl⟩ := hcs
    exact Nat.le_refl _
  · simp [Value.cells] at hcs
    obtain ⟨rfl, rfl, rfl⟩ := hcs
    omega
end
end Go.Proofs.Ytoaciliojdaoaaa

/- Layers 32, 33: filters that come in are rows of filters. No condition. -/
namespace Go.Proofs.Ytoaciliojdaoaaa
open Go.RowKit
section
variable {H : Type} {enc : TypeId × Value → H} {W : World}
theorem rdw_fv : RdW enc Try.prog W 43 4 (fun (x : Fv) cs => FvR (PRow W) x cs) :=
  ⟨by kernel_rfl, fun n cs y hl h ho => by
    obtain ⟨f, h0, _⟩ := rdw_part (i := 0) (o := 0) Try.underlying43 rfl rfl rdw_iS (by rw [hl]; decide) h ho
    obtain ⟨a, A, ka, h1, _, ra⟩ := rdw_part (i := 1) (o := 1) Try.underlying43 rfl rfl rdw_isS (by rw [hl]; decide) h ho
    obtain ⟨t, h2, _⟩ := rdw_part (i := 2) (o := 2) Try.underlying43 rfl rfl rdw_iS (by rw [hl]; decide) h ho
    obtain ⟨b, B, kb, h3, _, rb⟩ := rdw_part (i := 3) (o := 3) Try.underlying43 rfl rfl rdw_isS (by rw [hl]; decide) h ho
    match cs, hl with
    | [x0, x1, x2, x3], _ =>
      simp at h0 h1 h2 h3
      subst h0
      subst h1
      subst h2
      subst h3
      exact ⟨⟨f, t, a, b⟩, A, ka, B, kb, rfl, ra, rb⟩⟩
/-- Filters, and no more of them than memory holds. -/
theorem rdw_fvs : RdW enc Try.prog W 39 1 (fun (l : List Fv) cs => ∃ A c, cs = [.slice A l.length c] ∧ l.length ≤ 1000000000000000 ∧ FvsR (PRow W) A l ∧ True) :=
  rdw_map (rdw_slice Try.underlying39 (by kernel_rfl) (by decide) (bytes := 64) (by kernel_rfl) rdw_fv) fun l cs ⟨A, c, css, h1, _, _, h5, h3, h4⟩ => ⟨A, c, h1, by unfold reachBytes at h5; omega, ⟨css, h3, h4⟩, trivial⟩
end
end Go.Proofs.Ytoaciliojdaoaaa

namespace Go.Proofs.Ytoaciliojdaoaaa.readyOne
open Go.RowKit Go.ChangeShapes Go.WideShapes Go.ChangeAt Go.Joins

theorem reads : ∀ t ∈ Try.f5.params.toList, Try.prog.readableRec t = true ∧ t < Try.prog.types.size := by
  rw [Try.params5]
  intro t ht
  simp only [List.mem_cons, List.not_mem_nil, or_false] at ht
  rcases ht with rfl | rfl | rfl | rfl
  all_goals exact ⟨by kernel_rfl, of_decide_eq_true (by kernel_rfl)⟩

set_option maxRecDepth 100000 in
theorem lifted (os : Os) (started : os.Started) (H : Type) (enc : TypeId × Value → H) :
    ReturnsInHanded {} Try.checked os 5 .any (Rows.readyOneSpec.pre6 enc Try.prog Try.f5 Rows.readyOneRow.domain false) (Rows.readyOneSpec.post enc Try.prog Try.f5 false true false false) := by
  refine returnsInHanded_of_change_sized (C := Try.checked) own started (by kernel_rfl) Try.func5
    (ChangeSpec.witness6 (enc := enc) (C := Try.checked) false ⟨#[], #[.agg #[.slice none 0 0, .slice none 0 0, .int .i64 0, .string ByteArray.empty, .string ByteArray.empty, .int .i64 0, .int .i64 0, .int .i64 0, .int .i64 0, .string ByteArray.empty, .slice none 0 0, .slice none 0 0], .slice none 0 0, .slice none 0 0, .slice none 0 0], []⟩ 8 (by kernel_rfl) (by kernel_rfl) (by kernel_rfl) (by kernel_rfl)) ?_
  intro W base args ds gs before hval0 hW hcnd hsz0 _
  have hval : ∀ (j : Nat) t v, Try.f5.params[j]? = some t → args[j]? = some v → Value.okWide Try.prog W .any base t v := hval0
  have hW' := hW
  obtain ⟨p, q, hA0, hV, hpq, hfz, hnd⟩ := hW
  have hA : DataW.TrodAll enc Try.prog W 0 (fun _ => true) true Try.f5.params.toList args.toList ds p := hA0
  rw [Try.params5] at hA hval
  obtain ⟨v0, vs0, d0, ds0, p0, q0, hargs, rfl, rfl, h0, r0⟩ := trodAll_cons hA
  obtain ⟨v1, vs1, d1, ds1, p1, q1, rfl, rfl, rfl, h1, r1⟩ := trodAll_cons r0
  obtain ⟨v2, vs2, d2, ds2, p2, q2, rfl, rfl, rfl, h2, r2⟩ := trodAll_cons r1
  obtain ⟨v3, vs3, d3, ds3, p3, q3, rfl, rfl, rfl, h3, r3⟩ := trodAll_cons r2
  obtain ⟨rfl, rfl, rfl⟩ := trodAll_nil r3
  obtain rfl : args = #[v0, v1, v2, v3] := by cases args; simp_all
  obtain ⟨rfl, rfl⟩ := trodVars_none hV
  have hz : (DataW.weightsEach Try.prog [29, 30, 39, 57] [d0, d1, d2, d3]).all (· ≤ reachBytes) = true := hsz0
  simp only [DataW.weightsEach, List.all_append, List.append_nil, Bool.and_eq_true] at hz
  obtain ⟨zz0, zz1, zz2, zz3⟩ := hz
  obtain ⟨qcs, q, rfl, zq, qA, qk, qB, qj, qC, qc, qD, qd, eq, rq1, rq2, rq3, rq4⟩ := rd_arg Try.underlying29 rd_query (hval 0 29 v0 rfl rfl) h0
  obtain rfl : qcs = qyC q.items q.src q.wh q.group qA qk qB qj qC qc qD qd := Array.ext' (by rw [eq]; rfl)
  have o1 := open_islice Try.underlying30 Try.underlying3 (by kernel_rfl) (hval 1 30 v1 rfl rfl) h1
  obtain ⟨tA, tc, tl, rfl, zt, rt, wt, st⟩ := o1
  have o2 := rdw_arg_slice Try.underlying39 rdw_fvs (hval 2 39 v2 rfl rfl) h2 zz2
  obtain ⟨f, fA, fc, ef, cf, rf, kf⟩ := o2
  obtain rfl := List.cons.inj ef |>.1
  have o3 := rdw_arg_slice Try.underlying57 rdw_bools (hval 3 57 v3 rfl rfl) h3 zz3
  obtain ⟨n, nA, nc, en, cn, rn, kn⟩ := o3
  obtain rfl := List.cons.inj en |>.1
  refine (readyOne_walk q.items q.src q.wh q.group qA qk qB qj qC qc qD qd tl tA tc f fA fc n nA nc (open_islice_capO Try.underlying30 Try.underlying3 (by kernel_rfl) h1) W rq1 rq2 rq3 rq4 rt rf rn).mono fun e W' ⟨he, hg⟩ => ?_
  subst he
  exact ⟨_, rfl, law_post hW' rfl rfl Try.underlying4 rfl rfl rfl laid_out reads (Grew.below hg)⟩

theorem over : Rows.readyOneRow.holds Try.pinned (OpenSpec.ofChange Rows.readyOneSpec) :=
  OpenClaim.holds_of_wide 5 Try.f5 rfl rfl rfl rfl rfl rfl rfl ⟨rfl, rfl, rfl, rfl, rfl⟩ rfl rfl rfl rfl rfl (by kernel_rfl) Try.func5 (by kernel_rfl)
    (of_decide_eq_true (by kernel_rfl)) (by unfold Func.isWrapper; first | (rw [if_pos (by decide +kernel)]; kernel_rfl) | (rw [if_neg (by decide +kernel)]; exact ⟨rfl, rfl⟩))
    (fun os started H enc _ => lifted os started H enc)

theorem proved : Rows.ReadyOneSaid := over

end Go.Proofs.Ytoaciliojdaoaaa.readyOne
