/- Layer 33: can all be done, and levels, by the program. Condition: no more than a thousand pipes. -/
import Derived.Test.YtfdjnhnchibejaaRdy3
import Derived.Deep.DeepCutAuto
namespace Go.Proofs.Ytfdjnhnchibejaa
open Go.RowKit
attribute [local go_sem] more_cell more_frozen more_more more_setCell more_of_drew more_of_drewN lt_more le_more past_cell past_cell2 past_frozen past_frozen2 past_setCell past_setCell2 mid_cell mid_frozen mid_setCell
attribute [local go_sem ↓] Go.wp_at_zero Go.wp_at_succ

theorem acyclic33_any (o : Oth) (nd : List (List Int)) (n : Nat) (hn : nd.length = n) (hn1 : n ≤ 1000) (hw : wfG nd) (hel : ∀ e ∈ nd, e.length ≤ 30) (A : Option Addr) (k : Nat) (w : World) (ra : PipsR w A nd) :
    Gives Try.prog 102 #[plV o A n k] w (.bool (decide ((ordS nd n).1.length = n))) := by
  have HOr := Lib.hid (fun W (hW : Grew w W) => order33_any o nd n hn hn1 hw hel A k W (ra.grew hW))
  have hle : (ordS nd n).1.length ≤ n := by rw [← hn]; exact ordS_le nd nd.length
  clear hw hel ra hn
  have he : (((ordS nd n).1.length : Int) == (n : Int)) = decide ((ordS nd n).1.length = n) := by rw [Bool.eq_iff_iff, beq_iff_eq, decide_eq_true_iff]; omega
  obtain ⟨t, ht⟩ : ∃ t, decide ((ordS nd n).1.length = n) = t := ⟨_, rfl⟩
  rw [ht] at he ⊢
  clear ht
  unfold OrdF at HOr
  generalize (ordS nd n).1 = l at *
  unfold Gives
  unfold plV at *
  have HB0 : Hid (Blok (w.alloc (.cells (plC o A n k) 117)) w.heap.size 117 (plC o A n k)) := Lib.hid (Blok.new _ _ _ _ rfl)
  have HG0 : Hid (Grew w (w.alloc (.cells (plC o A n k) 117))) := Lib.hid ((Grew.refl w).alloc _)
  go_enter Try.func102, Try.ntmps102
  go_upto_region 1 with fail
  obtain ⟨w1, hw1⟩ : ∃ w1, w1 = w.alloc (.cells (plC o A n k) 117) := ⟨_, rfl⟩
  rw [← hw1] at HB0 HG0 ⊢
  clear hw1
  generalize w.heap.size = g at *
  unfold plC at HOr
  refine wp_region_S (fun W => Grew w1 W) (by kernel_rfl) ?_
  refine held_take 0 (v := ?_) rfl (by kernel_rfl) (by kernel_rfl) (by kernel_rfl) (fun _ _ _ h => h) (by rfl) ?_ (Grew.refl _).drew ?_
  rotate_left
  · (intro W hW; obtain ⟨b0, d0, d1, b1, d3, d4, d5⟩ := boxP (HB0.out.grew hW); go_simp; with_reducible rfl)
  refine held_norm (a' := ?_) ?_ ?_
  rotate_left
  · (go_simp; with_reducible rfl)
  refine held_take 3 (v := ?_) rfl (by kernel_rfl) (by kernel_rfl) (by kernel_rfl) (fun _ _ _ h => h) (by rfl) ?_ (Grew.refl _).drew ?_
  rotate_left
  · (intro W hW; obtain ⟨b0, d0, d1, b1, d3, d4, d5⟩ := boxP (HB0.out.grew hW); go_simp; with_reducible rfl)
  refine held_take 4 (v := ?_) rfl (by kernel_rfl) (by kernel_rfl) (by kernel_rfl) (fun _ _ _ h => h) (by rfl) ?_ (Grew.refl _).drew ?_
  rotate_left
  · (intro W hW; obtain ⟨b0, d0, d1, b1, d3, d4, d5⟩ := boxP (HB0.out.grew hW); go_simp; with_reducible rfl)
  refine held_take 5 (v := ?_) rfl (by kernel_rfl) (by kernel_rfl) (by kernel_rfl) (fun _ _ _ h => h) (by rfl) ?_ (Grew.refl _).drew ?_
  rotate_left
  · (intro W hW; obtain ⟨b0, d0, d1, b1, d3, d4, d5⟩ := boxP (HB0.out.grew hW); go_simp; with_reducible rfl)
  refine held_norm (a' := ?_) ?_ ?_
  rotate_left
  · (go_simp; with_reducible rfl)
  refine held_call 1 (by kernel_rfl) rfl (by rfl) (fun K hK => ?_)
  go_simp
  go_wp2_with (go_at_call 101; (with_reducible refine (HOr.out _ (HG0.out.drew)).mono ?_); rintro e w6 ⟨A6, k6, rfl, hg6, hr6⟩; have G6 := Lib.hid ((Grew.refl w1).drew.trans hg6); clear hg6 hr6)
  refine hK.out _ _ G6.out ?_
  clear hK K
  refine held_take 2 (v := ?_) rfl (by kernel_rfl) (by kernel_rfl) (by kernel_rfl) (fun _ _ _ h => h) (by rfl) ?_ G6.out ?_
  rotate_left
  · (intro W hW; go_simp; with_reducible rfl)
  refine held_take 6 (v := ?_) rfl (by kernel_rfl) (by kernel_rfl) (by kernel_rfl) (fun _ _ _ h => h) (by rfl) ?_ G6.out ?_
  rotate_left
  · (intro W hW; go_simp; with_reducible rfl)
  refine held_take 7 (v := ?_) rfl (by kernel_rfl) (by kernel_rfl) (by kernel_rfl) (fun _ _ _ h => h) (by rfl) ?_ G6.out ?_
  rotate_left
  · (intro W hW; go_simp; with_reducible rfl)
  refine held_norm (a' := ?_) ?_ ?_
  rotate_left
  · (go_simp; with_reducible rfl)
  refine held_done (by kernel_rfl) ?_
  go_wp2
  go_ret
  exact ⟨by rw [← he]; rfl, HG0.out.trans G6.out⟩
theorem lvS_zero {nd : List (List Int)} {l : List Nat} {i : Nat} (hi : i ∉ l) : (lvS nd l).getD i 0 = 0 := by
  have : ∀ (l : List Nat) (lv : List Int), i ∉ l → (l.foldl (fun lv i => lv.set i (maxL lv (edgeAt nd i) + 1)) lv).getD i 0 = lv.getD i 0 := by
    intro l
    induction l with
    | nil => intro lv _; rfl
    | cons a t ih =>
      intro lv hm
      rw [List.foldl_cons, ih _ (fun h => hm (by simp [h]))]
      rw [List.getD_eq_getElem?_getD, List.getElem?_set_ne (fun e => hm (by simp [e])), ← List.getD_eq_getElem?_getD]
  unfold lvS
  rw [this l _ hi, List.getD_eq_getElem?_getD]
  by_cases h : i < nd.length
  · simp [h]
  · rw [List.getElem?_eq_none (by simp; omega)]; rfl
theorem maxL_in {lv : List Int} {m : Int} (h0 : 0 ≤ m) (h : ∀ x ∈ lv, 0 ≤ x ∧ x ≤ m) (e : List Int) : 0 ≤ maxL lv e ∧ maxL lv e ≤ m := by
  have hg : ∀ i, 0 ≤ lv.getD i 0 ∧ lv.getD i 0 ≤ m := fun i => by
    rw [List.getD_eq_getElem?_getD]
    cases hi : lv[i]? with
    | none => exact ⟨Int.le_refl _, h0⟩
    | some x => exact h x (List.mem_of_getElem? hi)
  have : ∀ (e : List Int) (a : Int), 0 ≤ a → a ≤ m → 0 ≤ e.foldl (fun h x => max h (lv.getD x.toNat 0)) a ∧ e.foldl (fun h x => max h (lv.getD x.toNat 0)) a ≤ m := by
    intro e
    induction e with
    | nil => intro a h1 h2; exact ⟨h1, h2⟩
    | cons b t ih =>
      intro a h1 h2
      rw [List.foldl_cons]
      have := hg b.toNat
      exact ih _ (by omega) (by omega)
  exact this e 0 (Int.le_refl _) h0
theorem maxL_snoc (lv e : List Int) (x : Int) : maxL lv (e ++ [x]) = max (maxL lv e) (lv.getD x.toNat 0) := by
  unfold maxL
  rw [List.foldl_append]
  rfl
theorem lvS_in (nd : List (List Int)) (l : List Nat) : ∀ x ∈ lvS nd l, 0 ≤ x ∧ x ≤ (l.length : Int) := by
  have : ∀ (l : List Nat) (lv : List Int) (m : Int), 0 ≤ m → (∀ x ∈ lv, 0 ≤ x ∧ x ≤ m) → ∀ x ∈ l.foldl (fun lv i => lv.set i (maxL lv (edgeAt nd i) + 1)) lv, 0 ≤ x ∧ x ≤ m + (l.length : Int) := by
    intro l
    induction l with
    | nil => intro lv m _ h x hx; have := h x hx; simpa using this
    | cons a t ih =>
      intro lv m h0 h x hx
      rw [List.foldl_cons] at hx
      have h2 := maxL_in h0 h (edgeAt nd a)
      have := ih _ (m + 1) (by omega) (fun y hy => by
        rcases List.mem_or_eq_of_mem_set hy with hy | hy
        · have := h y hy; omega
        · omega) x hx
      rw [List.length_cons]
      omega
  intro x hx
  have := this l (List.replicate nd.length 0) 0 (Int.le_refl _) (fun y hy => by rw [List.eq_of_mem_replicate hy]; omega) x hx
  omega
def levI (nd : List (List Int)) (l : List Nat) (t : Int) : Int := if 0 ≤ t ∧ t < nd.length then (lvS nd l).getD t.toNat 0 else 0
structure LvS (w : World) (lb B : Nat) (A : Option Addr) (l : List Nat) (lv : List Int) (wr : World) : Prop where
  grew : Grew w wr
  blk : Blok wr lb 3 (iV lv).toArray
  row : TRow B wr 3 A (nL l)
theorem LvS.on {w wr w' : World} {lb B : Nat} {A : Option Addr} {l : List Nat} {lv : List Int} (s : LvS w lb B A l lv wr) (g : Grew wr w') : LvS w lb B A l lv w' := ⟨s.grew.trans g, s.blk.grew g, s.row.grew g⟩
theorem iV_get (l : List Int) (z : Nat) : ((iV l).toArray)[z]? = (l[z]?).map (Value.int .i64) := by
  unfold iV
  simp
theorem iV_put (l : List Int) (i : Nat) (v : Int) : (iV l).toArray.setIfInBounds i (.int .i64 v) = (iV (l.set i v)).toArray := by
  unfold iV
  apply Array.ext'
  rw [Array.toList_setIfInBounds, List.map_set]
theorem LvS.put {w wr w' : World} {lb B : Nat} {A : Option Addr} {l : List Nat} {lv : List Int} (s : LvS w lb B A l lv wr) (hw : w.heap.size ≤ lb) (hB : lb < B) (i : Nat) (v : Int) (e : w' = wr.setCell ⟨lb, i, none⟩ (.int .i64 v)) : LvS w lb B A l (lv.set i v) w' := by
  subst e
  refine ⟨s.grew.setCell (a := ⟨lb, i, none⟩) hw _, ?_, s.row.turns ((Turns.refl wr lb).set i _) hB⟩
  rw [← iV_put]
  exact s.blk.set i _
def LvAt (w : World) (lb B : Nat) (A : Option Addr) (nd : List (List Int)) (l : List Nat) (x : Value) (wr : World) : Prop := ∃ j : Nat, j ≤ l.length ∧ x = .int .i64 j ∧ LvS w lb B A l (lvS nd (l.take j)) wr
def LvIn (w : World) (lb B : Nat) (A : Option Addr) (l : List Nat) (i : Nat) (lv e : List Int) (x : Value) (wr : World) : Prop := ∃ q : Nat, q ≤ e.length ∧ x = .int .i64 q ∧ LvS w lb B A l (lv.set i (maxL lv (e.take q))) wr
set_option maxHeartbeats 4000000 in
set_option maxRecDepth 100000 in
theorem level33_any (o : Oth) (nd : List (List Int)) (n : Nat) (hn : nd.length = n) (hn1 : n ≤ 1000) (hw : wfG nd) (hel : ∀ e ∈ nd, e.length ≤ 30) (A : Option Addr) (k : Nat) (t : Int) (w : World) (ra : PipsR w A nd) :
    Gives Try.prog 103 #[plV o A n k, .int .i64 t] w (.int .i64 (levI nd (ordS nd n).1 t)) := by
  have RA := Lib.hid ra
  have HOr := Lib.hid (fun W (hW : Grew w W) => order33_any o nd n hn hn1 hw hel A k W (ra.grew hW))
  have HEl := Lib.hid hel
  have HN := Lib.hid hn
  have HI := Lib.hid (ordInv nd n)
  have hle : (ordS nd n).1.length ≤ n := by rw [← hn]; exact ordS_le nd nd.length
  unfold OrdF at HOr
  generalize (ordS nd n).1 = l at *
  generalize (ordS nd n).2 = dn at *
  obtain ⟨i0, hi, hz0, hz1, hz2⟩ := info_parts infoI
  have HJ := Lib.hid hi
  have HJ0 := Lib.hid hz0
  have HJ1 := Lib.hid hz1
  have HJ2 := Lib.hid hz2
  clear hw hel ra hi hz0 hz1 hz2
  obtain ⟨fin, hfin⟩ : ∃ fin, levI nd l t = fin := ⟨_, rfl⟩
  rw [hfin]
  have HFin := Lib.hid hfin
  clear hfin
  unfold Gives
  unfold plV at *
  have HB0 : Hid (Blok (w.alloc (.cells (plC o A n k) 117)) w.heap.size 117 (plC o A n k)) := Lib.hid (Blok.new _ _ _ _ rfl)
  have HG0 : Hid (Grew w (w.alloc (.cells (plC o A n k) 117))) := Lib.hid ((Grew.refl w).alloc _)
  by_cases hin : 0 ≤ t ∧ t < n
  rotate_left
  · obtain rfl : fin = 0 := by rw [← HFin.out]; unfold levI; rw [if_neg (by rw [hn]; exact hin)]
    clear HFin HI hn hle
    go_enter Try.func103, Try.ntmps103
    go_upto_region 1 with fail
    obtain ⟨w1, hw1⟩ : ∃ w1, w1 = w.alloc (.cells (plC o A n k) 117) := ⟨_, rfl⟩
    rw [← hw1] at HB0 HG0 ⊢
    clear hw1
    generalize w.heap.size = g at *
    obtain ⟨b0, _, _, b1, _, _, _⟩ := boxP HB0.out
    by_cases h0 : t < 0
    · have e0 : decide (t < (0 : Int)) = true := decide_eq_true h0
      clear hin
      go_wp2
      go_ret
      exact ⟨rfl, HG0.out⟩
    · have e0 : decide (t < (0 : Int)) = false := decide_eq_false h0
      have h1 : (n : Int) ≤ t := by omega
      have e1 : decide ((n : Int) ≤ t) = true := decide_eq_true h1
      have h0' : 0 ≤ t := by omega
      clear hin h0
      go_wp2
      go_ret
      exact ⟨rfl, HG0.out⟩
  obtain ⟨t, rfl⟩ : ∃ z : Nat, t = (z : Int) := ⟨t.toNat, by omega⟩
  have htn : t < n := by omega
  have e0 : decide ((t : Int) < (0 : Int)) = false := decide_eq_false (by omega)
  have e1 : decide ((n : Int) ≤ (t : Int)) = false := decide_eq_false (by omega)
  have HFt : Hid ((lvS nd l).getD t 0 = fin) := Lib.hid (by rw [← HFin.out]; unfold levI; rw [if_pos (by omega), Int.toNat_natCast])
  clear HFin hin hn
  go_enter Try.func103, Try.ntmps103
  go_upto_region 1 with fail
  obtain ⟨w1, hw1⟩ : ∃ w1, w1 = w.alloc (.cells (plC o A n k) 117) := ⟨_, rfl⟩
  rw [← hw1] at HB0 HG0 ⊢
  clear hw1
  generalize w.heap.size = g at *
  obtain ⟨b0, d0, d1, b1, d3, d4, d5⟩ := boxP HB0.out
  go_upto_region 4 with (at_make; refine wpList_make_row _ rfl _ _ 38 rfl 3 i0 (.int .i64 0) Try.underlying38 HJ.out HJ0.out HJ1.out rfl _ _ n rfl rfl (by rw [HJ2.out]; omega) (by omega) ?_)
  clear b0 d0 d1 b1 d3 d4 d5 e0 e1
  have HLv0 : Hid (Blok (w1.alloc (.cells (madeCells #[.int .i64 0] n) 3)) w1.heap.size 3 (iV (lvS nd (l.take 0))).toArray) := Lib.hid (by
    have e : (iV (lvS nd (l.take 0))).toArray = madeCells #[.int .i64 0] n := by
      apply Array.ext'
      rw [toList_madeCells_one]
      show iV (List.replicate nd.length 0) = _
      rw [HN.out]
      simp [iV]
    rw [e]
    exact Blok.new w1 3 (madeCells #[.int .i64 0] n) _ rfl)
  have HG2 : Hid (Grew w1 (w1.alloc (.cells (madeCells #[.int .i64 0] n) 3))) := Lib.hid ((Grew.refl w1).alloc _)
  generalize w1.alloc (.cells (madeCells #[.int .i64 0] n) 3) = w2 at *
  obtain ⟨lb, hlb⟩ : ∃ lb, w1.heap.size = lb := ⟨_, rfl⟩
  rw [hlb] at HLv0 ⊢
  have HLb := Lib.hid hlb
  clear hlb
  obtain ⟨b0, d0, d1, b1, d3, d4, d5⟩ := boxP (HB0.out.grew HG2.out)
  have HOr1 := Lib.hid (HOr.out w2 (HG0.out.trans HG2.out))
  unfold plC at HOr1
  go_wp2_with (go_at_call 101; (with_reducible refine HOr1.out.mono ?_); rintro e w6 ⟨A6, k6, rfl, hg6, hr6⟩; have HG6 := Lib.hid (HG2.out.trans hg6); have HR6 := Lib.hid hr6; have HLv6 := Lib.hid (HLv0.out.grew hg6); have HS0 : Hid (LvS w1 lb w2.heap.size A6 l (lvS nd (l.take 0)) w6) := Lib.hid ⟨HG6.out, HLv6.out, hr6⟩; clear hg6 hr6)
  have hlbB : lb < w2.heap.size := HLv0.out.lt
  clear HLv0 HOr HOr1 b0 d0 d1 b1 d3 d4 d5 HR6 HLv6
  generalize w2.heap.size = B at *
  go_loopw [26] (fun x wr => LvAt w1 lb B A6 nd l x wr) (fun x _ => l.length - (intOf x).toNat)
  case atStart => exact ⟨0, Nat.zero_le _, rfl, HS0.out⟩
  case round =>
    obtain ⟨j, hj, rfl, hs⟩ := hrel
    have HS := Lib.hid hs
    clear hs HS0
    by_cases h1 : j < l.length
    · obtain ⟨b, of, rfl, hb, hc⟩ := row_nat HS.out.row.plain h1
      obtain ⟨hin, _⟩ := (HI.out.mem l[j]).1 (List.getElem_mem h1)
      have hneeds := HI.out.needs j h1
      have hnot : l[j] ∉ l.take j := fun hm => by
        obtain ⟨q, hq, e⟩ := List.getElem_of_mem hm
        rw [List.length_take] at hq
        rw [List.getElem_take] at e
        exact (List.pairwise_iff_getElem.1 HI.out.nodup) q j (by omega) h1 (by omega) e
      have HZ := Lib.hid (lvS_zero (nd := nd) hnot)
      have hlvl := lvS_len nd (l.take j)
      have HIn := Lib.hid (lvS_in nd (l.take j))
      have htl : (l.take j).length = j := by rw [List.length_take]; omega
      have HNx : Hid (lvS nd (l.take (j + 1)) = (lvS nd (l.take j)).set l[j] (maxL (lvS nd (l.take j)) (edgeAt nd l[j]) + 1)) := Lib.hid (by rw [List.take_succ_eq_append_getElem h1, lvS_snoc])
      have HNd : Hid (∀ x ∈ edgeAt nd l[j], ∃ z : Nat, x = (z : Int) ∧ z < n ∧ z ≠ l[j]) := Lib.hid fun x hx => by
        obtain ⟨z, z1, z2, z3⟩ := hneeds x hx
        exact ⟨z, z1, by rw [← HN.out]; exact z2, fun e => hnot (by rw [← e]; exact z3)⟩
      rw [HN.out] at hin hlvl
      rw [htl] at HIn
      have hjn : (j : Int) ≤ 1000 := by omega
      clear hnot hneeds htl
      generalize hlv : lvS nd (l.take j) = lv at *
      clear hlv
      generalize hli : l[j] = i at *
      have hih : i < nd.length := by rw [HN.out]; exact hin
      have hee : edgeAt nd i = nd[i] := edgeAt_eq hih
      rw [hee] at HNx HNd
      obtain ⟨pb, po, D, d, rfl, hpb, hpc, hpr⟩ := pips_at RA.out hih
      have hl30 := HEl.out _ (List.getElem_mem hih)
      have HP := Lib.hid (fun W (hW : Grew w W) => And.intro (Nat.lt_of_lt_of_le hpb hW.size) (And.intro ((hW.cell (a := ⟨pb, po + i * 3 + 2, none⟩) hpb).trans hpc) (hpr.grew hW)))
      clear hpb hpc hpr hee hli
      generalize nd[i] = e at *
      clear hih
      obtain ⟨b0, _, _, b1, _, _, _⟩ := boxP (HB0.out.grew HS.out.grew)
      obtain ⟨p0, p1, _⟩ := HP.out _ (HG0.out.trans HS.out.grew)
      have HS1 : Hid (LvS w1 lb B (some ⟨b, of, none⟩) l (lv.set i (maxL lv (e.take 0))) wr) := Lib.hid (by
        have : lv.set i (maxL lv (e.take 0)) = lv := by
          have h0 : lv[i] = 0 := by
            have := HZ.out
            rw [List.getD_eq_getElem?_getD, List.getElem?_eq_getElem (by omega)] at this
            exact this
          show lv.set i 0 = lv
          rw [← h0]
          exact List.set_getElem_self _
        rw [this]
        exact HS.out)
      clear HS HZ
      go_wp2
      clear b0 b1 p0 p1 hb hc
      go_loopw [37] (fun x wx => LvIn w1 lb B (some ⟨b, of, none⟩) l i lv e x wx) (fun x _ => e.length - (intOf x).toNat)
      case atStart => exact ⟨0, Nat.zero_le _, rfl, HS1.out⟩
      case round =>
        obtain ⟨q, hq, rfl, hs⟩ := hrel
        have HS := Lib.hid hs
        clear hs HS1
        have hmx := maxL_in (m := (j : Int)) (by omega) HIn.out (e.take q)
        by_cases h2 : q < e.length
        · obtain ⟨b2, o2, rfl, hb2, hc2⟩ := rowI_at (HP.out _ (HG0.out.trans HS.out.grew)).2.2 h2
          obtain ⟨zz, hz, hzn, hzi⟩ := HNd.out _ (List.getElem_mem h2)
          have HMx : Hid (maxL lv (e.take (q + 1)) = max (maxL lv (e.take q)) (lv.getD zz 0)) := Lib.hid (by
            rw [List.take_succ_eq_append_getElem h2, maxL_snoc, hz, Int.toNat_natCast])
          rw [hz] at hc2
          have t0 := HS.out.blk.cell i
          have t1 := HS.out.blk.cell zz
          have tf := HS.out.blk.thaw i
          have tl := HS.out.blk.lt
          rw [show ((iV (lv.set i (maxL lv (e.take q)))).toArray)[i]? = some (.int .i64 (maxL lv (e.take q))) by simp [iV, hin, hlvl]] at t0
          rw [show ((iV (lv.set i (maxL lv (e.take q)))).toArray)[zz]? = some (.int .i64 (lv.getD zz 0)) by
            rw [iV_get, List.getElem?_set_ne (fun e => hzi e.symm), List.getD_eq_getElem?_getD, List.getElem?_eq_getElem (by omega)]
            rfl] at t1
          obtain ⟨mx, hmx2⟩ : ∃ mx, max (maxL lv (e.take q)) (lv.getD zz 0) = mx := ⟨_, rfl⟩
          have HF := Lib.hid (fun W e1 => HS.out.put (w' := W) (by rw [HLb.out]; exact Nat.le_refl _) hlbB i mx e1)
          rw [List.set_set] at HF
          rw [hmx2] at HMx
          generalize maxL lv (List.take q e) = ma at *
          generalize lv.getD zz 0 = mz at *
          clear hz
          go_upto_region 10 with fail
          refine wp_region_more_tail 12 (by kernel_rfl) (by kernel_rfl) ?_
          simp only [List.take_succ_cons, List.take_zero, List.drop_succ_cons, List.drop_zero]
          repeat (go_big_quiet_step ((fail)))
          refine wpQuiet_nil ?_
          rintro _ ⟨z, rfl⟩
          have HFz := Lib.hid ((HF.out _ rfl).on ⟨z, rfl⟩)
          go_wp2
          exact ⟨⟨q + 1, by omega, by go_num, by rw [HMx.out]; exact HFz.out⟩, by simp only [intOf]; omega⟩
        · obtain rfl : q = e.length := by omega
          rw [List.take_length] at HS hmx
          have t0 := HS.out.blk.cell i
          have tf := HS.out.blk.thaw i
          have tl := HS.out.blk.lt
          rw [show ((iV (lv.set i (maxL lv e))).toArray)[i]? = some (.int .i64 (maxL lv e)) by simp [iV, hin, hlvl]] at t0
          have HF := Lib.hid (fun W e1 => HS.out.put (w' := W) (by rw [HLb.out]; exact Nat.le_refl _) hlbB i (maxL lv e + 1) e1)
          rw [List.set_set, ← HNx.out] at HF
          generalize maxL lv e = ma at *
          go_wp2
          exact ⟨⟨j + 1, by omega, by go_num, HF.out _ rfl⟩, by simp only [intOf]; omega⟩
    · obtain rfl : j = l.length := by omega
      rw [List.take_length] at HS
      have t0 := HS.out.blk.cell t
      have tl := HS.out.blk.lt
      have hlvl := lvS_len nd l
      rw [HN.out] at hlvl
      rw [iV_get, List.getElem?_eq_getElem (by omega), Option.map_some] at t0
      have e2 : (lvS nd l)[t]'(by omega) = fin := by
        have := HFt.out
        rw [List.getD_eq_getElem?_getD, List.getElem?_eq_getElem (by omega)] at this
        exact this
      rw [e2] at t0
      clear e2 hlvl
      generalize lvS nd l = lvv at *
      go_wp2
      go_ret
      exact ⟨rfl, HG0.out.trans HS.out.grew⟩
end Go.Proofs.Ytfdjnhnchibejaa
