/- Layer 20: which keys are whole; whether a key's values may be at their places. Condition: rows that lie in memory that is there. -/
import Derived.Test.YtpcbnmpfiepaeaaDoorSpanH
import Derived.Test.YtpcbnmpfiepaeaaDoorVls
import Derived.Test.YtpcbnmpfiepaeaaDoorHeld
import Derived.Test.YtpcbnmpfiepaeaaDoorApp2
import Derived.Deep.RegionWith
import Derived.Deep.DeepCutAuto
namespace Go.Proofs.YtpcbnmpfiepaeaaDoor
open Go.RowKit
attribute [local go_sem] more_cell more_frozen more_more more_setCell more_of_drew more_of_drewN lt_more le_more past_cell past_cell2 past_frozen past_frozen2 past_setCell past_setCell2 mid_cell mid_frozen mid_setCell
attribute [local go_sem ↓] Go.wp_at_zero Go.wp_at_succ

/-- Is none null? -/
def wholeV (l : List Vl) : Bool := l.all fun v => !(v.k == 0)
theorem wholeV_drop {l : List Vl} {j : Nat} (h : j < l.length) : wholeV (l.drop j) = (!(l[j].k == 0) && wholeV (l.drop (j + 1))) := by
  unfold wholeV
  rw [List.drop_eq_getElem_cons h, List.all_cons]
def IxAt (w : World) (l : List Vl) (t : Bool) (i : Value) (wr : World) : Prop := ∃ j : Nat, j ≤ l.length ∧ i = .int .i64 j ∧ Grew w wr ∧ wholeV (l.drop j) = t
set_option maxHeartbeats 1000000 in
set_option maxRecDepth 100000 in
theorem indexNull_any (l : List Vl) (hl : l.length ≤ 140737488355328) (A : Option Addr) (k : Nat) (w : World) (ra : VlsR (PRow w) A l) :
    Calls Tryd.prog 48 #[.slice A l.length k, .func (.func 33) #[] #[]] w fun e w' => ∃ r : Int, e = .returned (.int .i64 r) ∧ Grew w w' ∧ (0 ≤ r ↔ wholeV l = false) := by
  have RA := Lib.hid ra
  obtain ⟨t, ht⟩ : ∃ t, wholeV l = t := ⟨_, rfl⟩
  have HT0 : Hid (wholeV (l.drop 0) = t) := Lib.hid ht
  rw [ht]
  clear ra ht
  go_enter Tryd.func48, Tryd.ntmps48
  go_wp2
  go_loopw [8] (fun i wr => IxAt w l t i wr) (fun i _ => l.length - (intOf i).toNat)
  case atStart => exact ⟨0, Nat.zero_le _, rfl, Grew.refl w, HT0.out⟩
  case round =>
    obtain ⟨j, hj, rfl, hg, hk⟩ := hrel
    have HG := Lib.hid hg
    have HK := Lib.hid hk
    clear hg hk HT0
    by_cases h : j < l.length
    · have hji : (j : Int) < (l.length : Int) := by omega
      have e0 : decide ((j : Int) < (l.length : Int)) = true := decide_eq_true hji
      obtain ⟨b, o, rfl, hb, c0, c1, c2⟩ := vlsR_at (RA.out.grew HG.out) h
      have HS := Lib.hid ((wholeV_drop h).symm.trans HK.out)
      clear HK
      generalize l[j] = v at *
      obtain ⟨vk, vi, vs⟩ := v
      simp only at c0 c1 c2 HS
      have HC := Lib.hid (fun W => isnull_any vk vi vs W)
      by_cases hn : vk = 0
      · have hb0 : (vk == 0) = true := by simpa using hn
        have ht : t = false := by rw [← HS.out, hb0]; rfl
        subst ht
        rw [hb0] at HC
        clear hn hb0 HS
        go_wp2_with (go_at_call 33; (with_reducible refine (HC.out _).grows.mono ?_); rintro e w5 ⟨rfl, hg5⟩; have HG5 := Lib.hid (HG.out.trans hg5); clear hg5)
        go_ret
        exact ⟨_, rfl, HG5.out, by constructor <;> intro _ <;> first | rfl | omega⟩
      · have hb0 : (vk == 0) = false := by simpa using hn
        have HS2 : Hid (wholeV (l.drop (j + 1)) = t) := Lib.hid (by have := HS.out; rw [hb0] at this; simpa using this)
        rw [hb0] at HC
        clear hn hb0 HS
        go_wp2_with (go_at_call 33; (with_reducible refine (HC.out _).grows.mono ?_); rintro e w5 ⟨rfl, hg5⟩; have HG5 := Lib.hid (HG.out.trans hg5); clear hg5)
        exact ⟨⟨j + 1, by omega, by go_num, HG5.out, HS2.out⟩, by simp only [intOf]; omega⟩
    · obtain rfl : j = l.length := by omega
      have ht : t = true := by rw [← HK.out, List.drop_length]; rfl
      subst ht
      clear HK
      go_wp2
      go_ret
      exact ⟨_, rfl, HG.out, by constructor <;> intro h <;> first | cases h | (exfalso; revert h; decide)⟩
set_option maxHeartbeats 1000000 in
theorem whole_any (l : List Vl) (hl : l.length ≤ 140737488355328) (A : Option Addr) (k : Nat) (w : World) (ra : VlsR (PRow w) A l) :
    Gives Tryd.prog 14 #[.slice A l.length k] w (.bool (wholeV l)) := by
  have HI := Lib.hid (indexNull_any l hl A k w ra)
  obtain ⟨t, ht⟩ : ∃ t, wholeV l = t := ⟨_, rfl⟩
  have HT := Lib.hid ht
  rw [ht] at HI ⊢
  have HCf : Hid (Gives Tryd.prog 32 #[.slice A l.length k, .func (.func 33) #[] #[]] w (.bool (!t))) := Lib.hid (by
    unfold Gives
    clear ra ht
    go_enter Tryd.func32, Tryd.ntmps32
    go_wp2_with fail
    refine HI.out.mono ?_
    rintro e w1 ⟨r, rfl, hg1, hr⟩
    have HG1 := Lib.hid hg1
    have hd : decide ((0 : Int) ≤ r) = !t := by
      cases t
      · exact decide_eq_true (hr.2 rfl)
      · exact decide_eq_false (fun h => by have := hr.1 h; cases this)
    clear hr hg1 HI
    go_wp2
    go_ret
    exact ⟨rfl, HG1.out⟩)
  clear ra ht HI
  unfold Gives
  go_enter Tryd.func14, Tryd.ntmps14
  go_wp2_with fail
  (with_reducible refine HCf.out.grows.mono ?_)
  rintro e w1 ⟨rfl, hg1⟩
  have HG1 := Lib.hid hg1
  clear hg1
  cases t
  · go_wp2
    go_ret
    exact ⟨rfl, HG1.out⟩
  · go_wp2
    go_ret
    exact ⟨rfl, HG1.out⟩
def toV (v : Vl) : V := ⟨v.k, v.i, v.s⟩
def scL (s : S) : List Value := (sc s).toList
def flatS (ss : List S) : List Value := (ss.map scL).flatten
theorem flatS_len (ss : List S) : (flatS ss).length = ss.length * 8 := by
  induction ss with
  | nil => rfl
  | cons s ss ih =>
    have e : flatS (s :: ss) = scL s ++ flatS ss := by simp [flatS]
    rw [e, List.length_append, ih, List.length_cons]
    show 8 + ss.length * 8 = (ss.length + 1) * 8
    omega
theorem flatS_app (a b : List S) : flatS (a ++ b) = flatS a ++ flatS b := by simp [flatS]
theorem flatS_one (ss : List S) : ∀ u ∈ flatS ss, u.oneCell' = true := by
  intro u hu
  obtain ⟨cs, hc, hu⟩ := List.mem_flatten.1 hu
  obtain ⟨s, _, rfl⟩ := List.mem_map.1 hc
  simp only [scL, sc, List.mem_cons, List.not_mem_nil, or_false] at hu
  rcases hu with rfl | rfl | rfl | rfl | rfl | rfl | rfl | rfl <;> rfl
theorem flatS_at {ss : List S} {j : Nat} (h : j < ss.length) (c : Nat) (u : Value) (hc : (scL ss[j])[c]? = some u) : (flatS ss)[j * 8 + c]? = some u := by
  have hcl : c < 8 := by
    rcases Nat.lt_or_ge c 8 with h | h
    · exact h
    · rw [List.getElem?_eq_none (show (scL ss[j]).length ≤ c from h)] at hc
      cases hc
  have e : flatS ss = flatS (ss.take j) ++ (scL ss[j] ++ flatS (ss.drop (j + 1))) := by
    have e1 : scL ss[j] ++ flatS (ss.drop (j + 1)) = flatS (ss.drop j) := by
      unfold flatS
      rw [List.drop_eq_getElem_cons h, List.map_cons, List.flatten_cons]
    rw [e1, ← flatS_app, List.take_append_drop]
  have hl : (flatS (ss.take j)).length = j * 8 := by rw [flatS_len, List.length_take, Nat.min_eq_left (by omega)]
  rw [e, List.getElem?_append_right (by omega), hl, Nat.add_sub_cancel_left, List.getElem?_append_left (by show c < 8; exact hcl)]
  exact hc
/-- The cells of a span in a row of spans. -/
theorem spans_at {w : World} {A : Option Addr} {ss : List S} (h : Row w A (flatS ss)) {j : Nat} (hj : j < ss.length) :
    ∃ b o, A = some ⟨b, o, none⟩ ∧ b < w.heap.size ∧ w.cell? ⟨b, o + j * 8, none⟩ = some (.int .i64 ss[j].low.k) ∧ w.cell? ⟨b, o + j * 8 + 1, none⟩ = some (.int .i64 ss[j].low.i) ∧ w.cell? ⟨b, o + j * 8 + 2, none⟩ = some (.string ss[j].low.s) ∧
      w.cell? ⟨b, o + j * 8 + 3, none⟩ = some (.int .i64 ss[j].high.k) ∧ w.cell? ⟨b, o + j * 8 + 4, none⟩ = some (.int .i64 ss[j].high.i) ∧ w.cell? ⟨b, o + j * 8 + 5, none⟩ = some (.string ss[j].high.s) ∧ w.cell? ⟨b, o + j * 8 + 6, none⟩ = some (.int .i64 ss[j].whole) ∧ w.cell? ⟨b, o + j * 8 + 7, none⟩ = some (.int .i64 ss[j].nulls) := by
  rcases h with h | ⟨b, o, hA, hb, hc⟩
  · have := congrArg List.length h
    rw [flatS_len] at this
    simp at this
    omega
  · have hx : ∀ c u, (scL ss[j])[c]? = some u → w.cell? ⟨b, o + j * 8 + c, none⟩ = some u := fun c u hu => by
      rw [Nat.add_assoc]
      exact hc _ _ (flatS_at hj c u hu)
    exact ⟨b, o, hA, hb, hx 0 _ rfl, hx 1 _ rfl, hx 2 _ rfl, hx 3 _ rfl, hx 4 _ rfl, hx 5 _ rfl, hx 6 _ rfl, hx 7 _ rfl⟩
/-- May each of a key's values be at its place? -/
def haveS : List S → List Vl → Bool
  | _, [] => true
  | [], _ :: _ => false
  | s :: ss, v :: l => hasS s (toV v) && haveS ss l
theorem haveS_long : ∀ {ss : List S} {l : List Vl}, ss.length < l.length → haveS ss l = false
  | _, [], h => absurd h (by simp)
  | [], _ :: _, _ => rfl
  | s :: ss, v :: l, h => by
    show (hasS s (toV v) && haveS ss l) = false
    rw [haveS_long (by simpa using h), Bool.and_false]
theorem haveS_drop {ss : List S} {l : List Vl} {j : Nat} (h : j < l.length) (h2 : j < ss.length) : haveS (ss.drop j) (l.drop j) = (hasS ss[j] (toV l[j]) && haveS (ss.drop (j + 1)) (l.drop (j + 1))) := by
  rw [List.drop_eq_getElem_cons h, List.drop_eq_getElem_cons h2]
  rfl
theorem haveS_end {ss : List S} {l : List Vl} : haveS (ss.drop l.length) (l.drop l.length) = true := by
  rw [List.drop_length]
  cases ss.drop l.length <;> rfl
def HvAt (w : World) (ss : List S) (l : List Vl) (t : Bool) (i : Value) (wr : World) : Prop := ∃ j : Nat, j ≤ l.length ∧ i = .int .i64 j ∧ Grew w wr ∧ haveS (ss.drop j) (l.drop j) = t
set_option maxHeartbeats 2000000 in
set_option maxRecDepth 100000 in
theorem have_any (ss : List S) (l : List Vl) (hl : l.length ≤ 140737488355328) (S0 A : Option Addr) (c k : Nat) (w : World) (rs : Row w S0 (flatS ss)) (ra : VlsR (PRow w) A l) :
    Gives Tryd.prog 27 #[.slice S0 ss.length c, .slice A l.length k] w (.bool (haveS ss l)) := by
  have RS := Lib.hid rs
  have RA := Lib.hid ra
  obtain ⟨t, ht⟩ : ∃ t, haveS ss l = t := ⟨_, rfl⟩
  have HT0 : Hid (haveS (ss.drop 0) (l.drop 0) = t) := Lib.hid ht
  have HTl : Hid (ss.length < l.length → t = false) := Lib.hid fun h => ht.symm.trans (haveS_long h)
  rw [ht]
  clear rs ra ht
  unfold Gives
  by_cases hlong : ss.length < l.length
  · have e9 : decide ((ss.length : Int) < (l.length : Int)) = true := decide_eq_true (by omega)
    have e9n : decide (ss.length < l.length) = true := decide_eq_true hlong
    obtain rfl := HTl.out hlong
    go_enter Tryd.func27, Tryd.ntmps27
    go_wp2
    go_ret
    exact ⟨rfl, by (show Grew _ _; repeat (first | exact Grew.refl _ | refine Grew.alloc ?_ _ | refine Grew.drew ?_ | refine Grew.more ?_ _))⟩
  · have e9 : decide ((ss.length : Int) < (l.length : Int)) = false := decide_eq_false (by omega)
    have e9n : decide (ss.length < l.length) = false := decide_eq_false hlong
    clear HTl
    go_enter Tryd.func27, Tryd.ntmps27
    go_wp2
    go_loopw [14] (fun i wr => HvAt w ss l t i wr) (fun i _ => l.length - (intOf i).toNat)
    case atStart => exact ⟨0, Nat.zero_le _, rfl, Grew.refl w, HT0.out⟩
    case round =>
      obtain ⟨j, hj, rfl, hg, hk⟩ := hrel
      have HG := Lib.hid hg
      have HK := Lib.hid hk
      clear hg hk HT0
      by_cases h : j < l.length
      · have h2 : j < ss.length := by omega
        have hji : (j : Int) < (l.length : Int) := by omega
        have hjs : (j : Int) < (ss.length : Int) := by omega
        have e0 : decide ((j : Int) < (l.length : Int)) = true := decide_eq_true hji
        obtain ⟨b, o, rfl, hb, c0, c1, c2⟩ := vlsR_at (RA.out.grew HG.out) h
        have HS := Lib.hid ((haveS_drop h h2).symm.trans HK.out)
        have HSp := Lib.hid (fun W (hW : Grew w W) => spans_at (RS.out.grew hW) h2)
        clear HK
        obtain ⟨th, hth⟩ : ∃ th, hasS ss[j] (toV l[j]) = th := ⟨_, rfl⟩
        have HH := Lib.hid (fun W => has_to ss[j] (toV l[j]) th hth W)
        rw [hth] at HS
        clear hth
        generalize ss[j] = s at *
        generalize l[j] = v at *
        obtain ⟨vk, vi, vs⟩ := v
        obtain ⟨⟨lk, li, ls⟩, ⟨hk, hi, hs⟩, wh, nu⟩ := s
        simp only [toV, va, sa] at c0 c1 c2 HS HSp HH
        go_upto_region 6 with fail
        obtain ⟨W3, hW3⟩ : ∃ W3, wr.alloc (.cells #[.int .i64 vk, .int .i64 vi, .string vs] 46) = W3 := ⟨_, rfl⟩
        have HB3 : Hid (Blok W3 wr.heap.size 46 #[.int .i64 vk, .int .i64 vi, .string vs]) := Lib.hid (by rw [← hW3]; exact Blok.new _ _ _ _ rfl)
        have HG3 : Hid (Grew w W3) := Lib.hid (by rw [← hW3]; exact HG.out.alloc _)
        rw [hW3]
        clear hW3 c0 c1 c2 hb
        generalize wr.heap.size = g at *
        obtain ⟨sb, so, rfl, _⟩ := HSp.out W3 HG3.out
        have HCs : Hid (∀ W, Grew W3 W → sb < W.heap.size ∧ W.cell? ⟨sb, so + j * 8, none⟩ = some (.int .i64 lk) ∧ W.cell? ⟨sb, so + j * 8 + 1, none⟩ = some (.int .i64 li) ∧ W.cell? ⟨sb, so + j * 8 + 2, none⟩ = some (.string ls) ∧ W.cell? ⟨sb, so + j * 8 + 3, none⟩ = some (.int .i64 hk) ∧ W.cell? ⟨sb, so + j * 8 + 4, none⟩ = some (.int .i64 hi) ∧ W.cell? ⟨sb, so + j * 8 + 5, none⟩ = some (.string hs) ∧ W.cell? ⟨sb, so + j * 8 + 6, none⟩ = some (.int .i64 wh) ∧ W.cell? ⟨sb, so + j * 8 + 7, none⟩ = some (.int .i64 nu)) := Lib.hid fun W hW => by
          obtain ⟨b', o', hA, h1⟩ := HSp.out W (HG3.out.trans hW)
          injection hA with hA
          injection hA with e1 e2 _
          subst e1 e2
          exact h1
        have HCv : Hid (∀ W, Grew W3 W → W.cell? ⟨g, 0, none⟩ = some (.int .i64 vk) ∧ W.cell? ⟨g, 1, none⟩ = some (.int .i64 vi) ∧ W.cell? ⟨g, 2, none⟩ = some (.string vs)) := Lib.hid fun W hW => by
          obtain ⟨_, d0, d1, d2, _, _, _⟩ := val_in (HB3.out.grew hW)
          exact ⟨d0, d1, d2⟩
        clear HSp
        refine wp_region_S (fun W => Grew W3 W) (by kernel_rfl) ?_
        refine held_take 0 (v := ?_) rfl (by kernel_rfl) (by kernel_rfl) (by kernel_rfl) (fun _ _ _ h => h) (by rfl) ?_ (Grew.refl W3).drew ?_
        rotate_left
        · (intro W hW; go_simp; with_reducible rfl)
        refine held_take 1 (v := ?_) rfl (by kernel_rfl) (by kernel_rfl) (by kernel_rfl) (fun _ _ _ h => h) (by rfl) ?_ (Grew.refl W3).drew ?_
        rotate_left
        · (intro W hW; go_simp; with_reducible rfl)
        refine held_take 2 (v := ?_) rfl (by kernel_rfl) (by kernel_rfl) (by kernel_rfl) (fun _ _ _ h => h) (by rfl) ?_ (Grew.refl W3).drew ?_
        rotate_left
        · (intro W hW; go_simp; with_reducible rfl)
        refine held_norm (a' := ?_) ?_ ?_
        rotate_left
        · (go_simp; with_reducible rfl)
        refine held_take 3 (v := ?_) rfl (by kernel_rfl) (by kernel_rfl) (by kernel_rfl) (fun _ _ _ h => h) (by rfl) ?_ (Grew.refl W3).drew ?_
        rotate_left
        · (intro W hW; obtain ⟨hb, c0, c1, c2, c3, c4, c5, c6, c7⟩ := HCs.out W hW; go_simp; with_reducible rfl)
        refine held_norm (a' := ?_) ?_ ?_
        rotate_left
        · (go_simp; with_reducible rfl)
        refine held_take 4 (v := ?_) rfl (by kernel_rfl) (by kernel_rfl) (by kernel_rfl) (fun _ _ _ h => h) (by rfl) ?_ (Grew.refl W3).drew ?_
        rotate_left
        · (intro W hW; obtain ⟨d0, d1, d2⟩ := HCv.out W hW; go_simp; with_reducible rfl)
        refine held_norm (a' := ?_) ?_ ?_
        rotate_left
        · (go_simp; with_reducible rfl)
        refine held_call 5 (by kernel_rfl) rfl (by rfl) (fun K hK => ?_)
        go_simp
        go_wp2_with (go_at_call 44; refine (HH.out _).mono ?_; rintro e w2 ⟨rfl, z, hg2⟩; have HG2 := Lib.hid (show Grew W3 w2 from by rw [hg2]; exact (Grew.refl W3).drew.more z); clear hg2)
        refine hK.out _ _ HG2.out ?_
        clear hK K
        refine held_take 6 (v := ?_) rfl (by kernel_rfl) (by kernel_rfl) (by kernel_rfl) (fun _ _ _ h => h) (by rfl) ?_ HG2.out ?_
        rotate_left
        · (intro W hW; go_simp; with_reducible rfl)
        refine held_norm (a' := ?_) ?_ ?_
        rotate_left
        · (go_simp; with_reducible rfl)
        refine held_done (by kernel_rfl) ?_
        have HG5 := Lib.hid (HG3.out.trans HG2.out)
        clear HCs HCv HH HB3 HG3 HG2
        cases th
        · have ht : t = false := HS.out.symm
          subst ht
          go_wp2
          go_ret
          exact ⟨rfl, HG5.out⟩
        · have HS2 : Hid (haveS (ss.drop (j + 1)) (l.drop (j + 1)) = t) := Lib.hid HS.out
          clear HS
          go_wp2
          exact ⟨⟨j + 1, by omega, by go_num, HG5.out, HS2.out⟩, by simp only [intOf]; omega⟩
      · obtain rfl : j = l.length := by omega
        have ht : t = true := by rw [← HK.out]; exact haveS_end
        subst ht
        clear HK
        go_wp2
        go_ret
        exact ⟨rfl, HG.out⟩
end Go.Proofs.YtpcbnmpfiepaeaaDoor
