/- How long a slice of ints may be that comes in: no longer than its room. No condition. -/
import Derived.Test.YtbglmcebkpkccaaGreatDoorQSz
import Derived.Test.YtbglmcebkpkccaaGreatDoorQKE
import Derived.Test.YtbglmcebkpkccaaGreatDoorQKH
import Derived.Test.YtbglmcebkpkccaaGreatDoorSat2
import Derived.Test.YtbglmcebkpkccaaGreatDoorQNm
import Derived.Test.YtbglmcebkpkccaaGreatDoorQKD
import Derived.Test.YtbglmcebkpkccaaGreatDoorQKF
import Derived.Deep.OwnRows
import Derived.WalkMore
import Derived.Test.YtbglmcebkpkccaaGreatDoorSame
/- Layer 29: for which rows of two tables what must be the same is so, by the document. Condition: no more than a million columns and marks, what is said, and edges, in memory that is there. -/
namespace Go.Proofs.YtbglmcebkpkccaaGreatDoor
open Go.RowKit
attribute [local go_sem] more_cell more_frozen more_more more_setCell more_of_drew more_of_drewN lt_more le_more past_cell past_cell2 past_frozen past_frozen2 past_setCell past_setCell2 mid_cell mid_frozen mid_setCell
attribute [local go_sem] fldC0 fldC1 fldS0
attribute [local go_sem ↓] Go.wp_at_zero Go.wp_at_succ
set_option maxHeartbeats 4000000 in
set_option maxRecDepth 100000 in
theorem rpair_any (l0 : List Sst) (hs : LitSd l0) (x : Nm) (hx : x.edges.length ≤ 1000000) (a b : Int) (A : Option Addr) (k : Nat) (X : Option Addr) (kx : Nat) (B : Option Addr) (j : Nat) (C : Option Addr) (c : Nat) (D : Option Addr) (d : Nat) (E : Option Addr) (e : Nat) (w : World)
    (ra : SstsR (PRow w) A l0) (rn : EdsR (PRow w) B x.edges) :
    Gives Tryz.prog 15 #[.agg (nmC x X kx B j C c D d E e), .slice A l0.length k, .int .i64 a, .int .i64 b] w (.float .f64 (pairK (heldAll l0) x.edges a b)) := by
  obtain ⟨W0, hW0⟩ : ∃ W0, W0 = w.alloc (.cells (nmC x X kx B j C c D d E e) 39) := ⟨_, rfl⟩
  have HG0 : Hid (Grew w W0) := Lib.hid (by rw [hW0]; exact (Grew.refl w).alloc _)
  have HX0 : Hid (Blok W0 w.heap.size 39 (nmC x X kx B j C c D d E e)) := Lib.hid (by rw [hW0]; exact Blok.new _ _ _ _ rfl)
  obtain ⟨x0, m0, m1, m2, m3, m4, m5⟩ := nm6 HX0.out
  have HS : Hid (∀ y : Ed, ∀ W, Grew W0 W → Gives Tryz.prog 47 #[.slice A l0.length k, .int .i64 y.a, .int .i64 y.ac, .int .i64 y.b, .int .i64 y.bc] W (.float .f64 (sameK (heldAll l0) y.a y.ac y.b y.bc))) := Lib.hid fun y W hW => requal_any l0 hs y.a y.ac y.b y.bc A k W (ra.grew (HG0.out.trans hW))
  obtain ⟨fin, hfin⟩ : ∃ fin, (x.edges.filter (edgeHit a b)).map (fun e => sameK (heldAll l0) e.a e.ac e.b e.bc) = fin := ⟨_, rfl⟩
  have HFin := Lib.hid hfin
  have hle : ∀ q ∈ fin, q ≤ 4607182418800017408 := fun q hq => by rw [← hfin] at hq; obtain ⟨y, _, rfl⟩ := List.mem_map.1 hq; exact ofB_le _ _
  have hfl : fin.length ≤ 1000000 := by rw [← hfin, List.length_map]; exact Nat.le_trans (List.length_filter_le _ _) hx
  unfold pairK
  rw [hfin]
  have HAn : Hid (∀ W Z z, Row W Z (fV fin) → Calls Tryz.prog 44 #[.slice Z fin.length z] W fun e w' => e = .returned (.float .f64 (andF fin 4607182418800017408)) ∧ w' = W) := Lib.hid fun W Z z hz => fo_rand_any fin Z z hfl (fun q hq => by have := hle q hq; omega) W hz
  have HRl := Lib.hid (rn.grew HG0.out)
  have HSm : Hid (∀ y : Ed, sameK (heldAll l0) y.a y.ac y.b y.bc = (fun e : Ed => sameK (heldAll l0) e.a e.ac e.b e.bc) y) := Lib.hid fun y => rfl
  have HLx := Lib.hid hx
  clear ra rn hx hs hle hfl hfin
  generalize andF fin 4607182418800017408 = q at *
  generalize hf : (fun e : Ed => sameK (heldAll l0) e.a e.ac e.b e.bc) = f at *
  have HSf : Hid (∀ y : Ed, ∀ W, Grew W0 W → Gives Tryz.prog 47 #[.slice A l0.length k, .int .i64 y.a, .int .i64 y.ac, .int .i64 y.b, .int .i64 y.bc] W (.float .f64 (f y))) := Lib.hid fun y W hW => by rw [← hf]; exact HS.out y W hW
  clear HS HSm hf
  generalize hLl : x.edges = l at *
  have HLl := Lib.hid hLl
  clear hLl
  unfold nmC at hW0 ⊢
  rw [HLl.out] at hW0 ⊢
  unfold Gives
  go_enter Tryz.func15, Tryz.ntmps15
  go_upto_region 1 with fail
  rw [← hW0]
  clear hW0
  go_wp2
  go_loopw [9, 10] (fun v i wr => PrAt W0 f a b l v i wr) (fun _ i _ => l.length - (intOf i).toNat)
  case atStart => exact ⟨0, 0, none, 0, Nat.zero_le _, rfl, rfl, rfl, Grew.refl _, own_none _ _ _ _⟩
  case round =>
    obtain ⟨n, m, A1, c1, hn, hm, rfl, rfl, hg, ho⟩ := hrel
    have HG := Lib.hid hg
    have HO := Lib.hid ho
    have HM := Lib.hid hm
    clear hg ho x0 m0 m1 m2 m3 m4 m5
    obtain ⟨x0, m0, m1, m2, m3, m4, m5⟩ := nm6 (HX0.out.grew HG.out)
    rw [HLl.out] at m2
    by_cases hlt : n < l.length
    · obtain ⟨b1, o1, rfl, hb1, n0, n1, n2, n3⟩ := edsR_at (HRl.out.grew HG.out) hlt
      have hmn : m ≤ n := by rw [hm]; exact Nat.le_trans (List.length_filter_le _ _) (by rw [List.length_take]; omega)
      have HSy : Hid (∀ W, Grew wr W → Gives Tryz.prog 47 #[.slice A l0.length k, .int .i64 l[n].a, .int .i64 l[n].ac, .int .i64 l[n].b, .int .i64 l[n].bc] W (.float .f64 (f l[n]))) := Lib.hid fun W hW => HSf.out l[n] W (HG.out.trans hW)
      have HT1 : Hid (edgeHit a b l[n] = true → (l.take (n + 1)).filter (edgeHit a b) = (l.take n).filter (edgeHit a b) ++ [l[n]]) := Lib.hid fun h => by rw [List.take_succ_eq_append_getElem hlt, List.filter_append]; simp [h]
      have HT0 : Hid (edgeHit a b l[n] = false → (l.take (n + 1)).filter (edgeHit a b) = (l.take n).filter (edgeHit a b)) := Lib.hid fun h => by rw [List.take_succ_eq_append_getElem hlt, List.filter_append]; simp [h]
      clear hm
      generalize hfq : f l[n] = fq at *
      generalize l[n] = y at *
      have HFy : Hid (f y = fq) := Lib.hid hfq
      clear hfq
      generalize hfl : (l.take n).filter (edgeHit a b) = fl at *
      have hx := HLx.out
      go_upto_region 6 with fail
      obtain ⟨w7, hw7⟩ : ∃ w7, w7 = wr.alloc (.cells #[.int .i64 y.a, .int .i64 y.ac, .int .i64 y.b, .int .i64 y.bc] 66) := ⟨_, rfl⟩
      have HB7 : Hid (Blok w7 wr.heap.size 66 #[.int .i64 y.a, .int .i64 y.ac, .int .i64 y.b, .int .i64 y.bc]) := Lib.hid (by rw [hw7]; exact Blok.new _ _ _ _ rfl)
      have HG7 : Hid (Grew wr w7) := Lib.hid (by rw [hw7]; exact (Grew.refl _).alloc _)
      rw [← hw7]
      clear hw7 n0 n1 n2 n3 hb1
      generalize wr.heap.size = g7 at *
      obtain ⟨z0, p0, p1, p2, p3, _, _, _, _⟩ := ed_in HB7.out
      by_cases q1 : y.a = a
      · have h0 : True := trivial
        by_cases q2 : y.b = b
        · have h0 : True := trivial
          have hhit : edgeHit a b y = true := by unfold edgeHit; rw [decide_eq_true q1, decide_eq_true q2]; first | done | rfl
          have e1 : (y.a == a) = true := by simp [q1]
          have e2 : (y.b == b) = true := by simp [q2]
          clear q1
          clear q2
          have HT := Lib.hid (HT1.out hhit)
          clear hhit
          go_wp2_with (first | (go_at_call 47; (with_reducible refine (HSy.out _ HG7.out).grows.mono ?_); rintro en w8 ⟨rfl, hg8⟩; have HG8 := Lib.hid (HG.out.trans (HG7.out.trans hg8)); have HO8 := Lib.hid (own_grewE HO.out (HG7.out.trans hg8)); clear hg8) | (at_builtin; refine wpList_appB rfl _ _ 75 43 1 rfl W0.heap.size (.float .f64 0) 8 Tryz.underlying75 infoFl rfl (by decide) (by decide) _ m (fV (fl.map f)) rfl (own_alloc HO8.out (.cells #[.float .f64 fq] 43)) _ 1 1 [.float .f64 fq] rfl rfl (row_one _ _ _ _ rfl) (by simp [Value.oneCell']) (by omega) (by rw [World.size_alloc]; have := HG8.out.size; omega) ?_; intro A9 c9 w9 ho9 hb9; have HG9 := Lib.hid ((HG8.out.alloc (.cells #[.float .f64 fq] 43)).grown hb9 (own_base HO8.out)); have HO9 := Lib.hid ho9; clear ho9 hb9))
          exact ⟨⟨n + 1, m + 1, A9, c9, by omega, by rw [HT.out, List.length_append, ← HM.out]; rfl, rfl, by go_num, HG9.out, by rw [HT.out, List.map_append]; simp only [fV, List.map_append, List.map_cons, List.map_nil, HFy.out]; exact HO9.out⟩, by simp only [intOf]; omega⟩
        · have h0 : True := trivial
          by_cases q3 : y.a = b
          · have h0 : True := trivial
            by_cases q4 : y.b = a
            · have h0 : True := trivial
              have hhit : edgeHit a b y = true := by unfold edgeHit; rw [decide_eq_true q1, decide_eq_false q2, decide_eq_true q3, decide_eq_true q4]; first | done | rfl
              have e1 : (y.a == a) = true := by simp [q1]
              have e2 : (y.b == b) = false := by simp [q2]
              have e3 : (y.a == b) = true := by simp [q3]
              have e4 : (y.b == a) = true := by simp [q4]
              clear q1
              clear q2
              clear q3
              clear q4
              have HT := Lib.hid (HT1.out hhit)
              clear hhit
              go_wp2_with (first | (go_at_call 47; (with_reducible refine (HSy.out _ HG7.out).grows.mono ?_); rintro en w8 ⟨rfl, hg8⟩; have HG8 := Lib.hid (HG.out.trans (HG7.out.trans hg8)); have HO8 := Lib.hid (own_grewE HO.out (HG7.out.trans hg8)); clear hg8) | (at_builtin; refine wpList_appB rfl _ _ 75 43 1 rfl W0.heap.size (.float .f64 0) 8 Tryz.underlying75 infoFl rfl (by decide) (by decide) _ m (fV (fl.map f)) rfl (own_alloc HO8.out (.cells #[.float .f64 fq] 43)) _ 1 1 [.float .f64 fq] rfl rfl (row_one _ _ _ _ rfl) (by simp [Value.oneCell']) (by omega) (by rw [World.size_alloc]; have := HG8.out.size; omega) ?_; intro A9 c9 w9 ho9 hb9; have HG9 := Lib.hid ((HG8.out.alloc (.cells #[.float .f64 fq] 43)).grown hb9 (own_base HO8.out)); have HO9 := Lib.hid ho9; clear ho9 hb9))
              exact ⟨⟨n + 1, m + 1, A9, c9, by omega, by rw [HT.out, List.length_append, ← HM.out]; rfl, rfl, by go_num, HG9.out, by rw [HT.out, List.map_append]; simp only [fV, List.map_append, List.map_cons, List.map_nil, HFy.out]; exact HO9.out⟩, by simp only [intOf]; omega⟩
            · have h0 : True := trivial
              have hhit : edgeHit a b y = false := by unfold edgeHit; rw [decide_eq_true q1, decide_eq_false q2, decide_eq_true q3, decide_eq_false q4]; first | done | rfl
              have e1 : (y.a == a) = true := by simp [q1]
              have e2 : (y.b == b) = false := by simp [q2]
              have e3 : (y.a == b) = true := by simp [q3]
              have e4 : (y.b == a) = false := by simp [q4]
              clear q1
              clear q2
              clear q3
              clear q4
              have HT := Lib.hid (HT0.out hhit)
              clear hhit
              go_wp2
              exact ⟨⟨n + 1, m, A1, c1, by omega, by rw [HT.out]; exact HM.out, rfl, by go_num, HG.out.trans HG7.out, by rw [HT.out]; exact own_grewE HO.out HG7.out⟩, by simp only [intOf]; omega⟩
          · have h0 : True := trivial
            have hhit : edgeHit a b y = false := by unfold edgeHit; rw [decide_eq_true q1, decide_eq_false q2, decide_eq_false q3]; first | done | rfl
            have e1 : (y.a == a) = true := by simp [q1]
            have e2 : (y.b == b) = false := by simp [q2]
            have e3 : (y.a == b) = false := by simp [q3]
            clear q1
            clear q2
            clear q3
            have HT := Lib.hid (HT0.out hhit)
            clear hhit
            go_wp2
            exact ⟨⟨n + 1, m, A1, c1, by omega, by rw [HT.out]; exact HM.out, rfl, by go_num, HG.out.trans HG7.out, by rw [HT.out]; exact own_grewE HO.out HG7.out⟩, by simp only [intOf]; omega⟩
      · have h0 : True := trivial
        by_cases q3 : y.a = b
        · have h0 : True := trivial
          by_cases q4 : y.b = a
          · have h0 : True := trivial
            have hhit : edgeHit a b y = true := by unfold edgeHit; rw [decide_eq_false q1, decide_eq_true q3, decide_eq_true q4]; first | done | rfl
            have e1 : (y.a == a) = false := by simp [q1]
            have e3 : (y.a == b) = true := by simp [q3]
            have e4 : (y.b == a) = true := by simp [q4]
            clear q1
            clear q3
            clear q4
            have HT := Lib.hid (HT1.out hhit)
            clear hhit
            go_wp2_with (first | (go_at_call 47; (with_reducible refine (HSy.out _ HG7.out).grows.mono ?_); rintro en w8 ⟨rfl, hg8⟩; have HG8 := Lib.hid (HG.out.trans (HG7.out.trans hg8)); have HO8 := Lib.hid (own_grewE HO.out (HG7.out.trans hg8)); clear hg8) | (at_builtin; refine wpList_appB rfl _ _ 75 43 1 rfl W0.heap.size (.float .f64 0) 8 Tryz.underlying75 infoFl rfl (by decide) (by decide) _ m (fV (fl.map f)) rfl (own_alloc HO8.out (.cells #[.float .f64 fq] 43)) _ 1 1 [.float .f64 fq] rfl rfl (row_one _ _ _ _ rfl) (by simp [Value.oneCell']) (by omega) (by rw [World.size_alloc]; have := HG8.out.size; omega) ?_; intro A9 c9 w9 ho9 hb9; have HG9 := Lib.hid ((HG8.out.alloc (.cells #[.float .f64 fq] 43)).grown hb9 (own_base HO8.out)); have HO9 := Lib.hid ho9; clear ho9 hb9))
            exact ⟨⟨n + 1, m + 1, A9, c9, by omega, by rw [HT.out, List.length_append, ← HM.out]; rfl, rfl, by go_num, HG9.out, by rw [HT.out, List.map_append]; simp only [fV, List.map_append, List.map_cons, List.map_nil, HFy.out]; exact HO9.out⟩, by simp only [intOf]; omega⟩
          · have h0 : True := trivial
            have hhit : edgeHit a b y = false := by unfold edgeHit; rw [decide_eq_false q1, decide_eq_true q3, decide_eq_false q4]; first | done | rfl
            have e1 : (y.a == a) = false := by simp [q1]
            have e3 : (y.a == b) = true := by simp [q3]
            have e4 : (y.b == a) = false := by simp [q4]
            clear q1
            clear q3
            clear q4
            have HT := Lib.hid (HT0.out hhit)
            clear hhit
            go_wp2
            exact ⟨⟨n + 1, m, A1, c1, by omega, by rw [HT.out]; exact HM.out, rfl, by go_num, HG.out.trans HG7.out, by rw [HT.out]; exact own_grewE HO.out HG7.out⟩, by simp only [intOf]; omega⟩
        · have h0 : True := trivial
          have hhit : edgeHit a b y = false := by unfold edgeHit; rw [decide_eq_false q1, decide_eq_false q3]; first | done | rfl
          have e1 : (y.a == a) = false := by simp [q1]
          have e3 : (y.a == b) = false := by simp [q3]
          clear q1
          clear q3
          have HT := Lib.hid (HT0.out hhit)
          clear hhit
          go_wp2
          exact ⟨⟨n + 1, m, A1, c1, by omega, by rw [HT.out]; exact HM.out, rfl, by go_num, HG.out.trans HG7.out, by rw [HT.out]; exact own_grewE HO.out HG7.out⟩, by simp only [intOf]; omega⟩
    · obtain rfl : n = l.length := by omega
      rw [List.take_length, HFin.out] at HO
      rw [List.take_length] at HM
      have hmf : m = fin.length := by rw [HM.out, ← HFin.out, List.length_map]
      clear HM hm
      subst hmf
      obtain ⟨A', c', e', hrow⟩ := own_row HO.out
      injection e' with e1 _ _
      subst e1
      have HRow := Lib.hid hrow
      clear hrow HO
      go_wp2_with (go_at_call 44; (with_reducible refine (HAn.out _ _ _ HRow.out).mono ?_); rintro en wz ⟨rfl, hwz⟩; subst hwz)
      go_ret
      exact ⟨rfl, HG0.out.trans HG.out⟩
end Go.Proofs.YtbglmcebkpkccaaGreatDoor
/- Layer 29: how many rows of a table there will be, by the document. Condition: no more than a million columns and marks, what is said, and conditions, in memory that is there. -/
namespace Go.Proofs.YtbglmcebkpkccaaGreatDoor
open Go.RowKit
attribute [local go_sem] more_cell more_frozen more_more more_setCell more_of_drew more_of_drewN lt_more le_more past_cell past_cell2 past_frozen past_frozen2 past_setCell past_setCell2 mid_cell mid_frozen mid_setCell
attribute [local go_sem] fldC0 fldC1 fldS0
attribute [local go_sem ↓] Go.wp_at_zero Go.wp_at_succ
set_option maxHeartbeats 4000000 in
set_option maxRecDepth 100000 in
theorem rscan_any (l0 : List Sst) (hs : LitSd l0) (x : Nm) (hx : ∀ l ∈ x.scan, l.length ≤ 1000000) (t : Int) (A : Option Addr) (k : Nat) (X : Option Addr) (kx : Nat) (B : Option Addr) (j : Nat) (C : Option Addr) (c : Nat) (D : Option Addr) (d : Nat) (E : Option Addr) (e : Nat) (w : World)
    (ra : SstsR (PRow w) A l0) (rn : XllR (PRow w) X x.scan) :
    Gives Tryz.prog 12 #[.agg (nmC x X kx B j C c D d E e), .slice A l0.length k, .int .i64 t] w (.int .i64 (scanK (heldAll l0) x.scan t)) := by
  obtain ⟨W0, hW0⟩ : ∃ W0, W0 = w.alloc (.cells (nmC x X kx B j C c D d E e) 39) := ⟨_, rfl⟩
  have HG0 : Hid (Grew w W0) := Lib.hid (by rw [hW0]; exact (Grew.refl w).alloc _)
  have HX0 : Hid (Blok W0 w.heap.size 39 (nmC x X kx B j C c D d E e)) := Lib.hid (by rw [hW0]; exact Blok.new _ _ _ _ rfl)
  obtain ⟨x0, m0, m1, m2, m3, m4, m5⟩ := nm6 HX0.out
  have hout : (t < 0 ∨ (x.scan.length : Int) ≤ t) → scanK (heldAll l0) x.scan t = 0 := fun h => by unfold scanK; rw [if_neg (by omega)]
  rcases k_cases x.scan.length t with h | ⟨h1, h2⟩ | ⟨i, rfl, hi⟩
  · rw [hout (Or.inl h)]
    clear hout ra rn hx hs
    unfold nmC at *
    unfold Gives
    go_enter Tryz.func12, Tryz.ntmps12
    go_upto_region 1 with fail
    rw [← hW0]
    clear hW0
    go_wp2
    go_ret
    exact ⟨rfl, HG0.out⟩
  · rw [hout (Or.inr h2)]
    have t1 : decide (t < (0 : Int)) = false := decide_eq_false (by omega)
    clear hout ra rn hx hs
    unfold nmC at *
    unfold Gives
    go_enter Tryz.func12, Tryz.ntmps12
    go_upto_region 1 with fail
    rw [← hW0]
    clear hW0
    go_wp2
    go_ret
    exact ⟨rfl, HG0.out⟩
  · obtain ⟨b, o, Y, ky, rfl, hb, hc, rl⟩ := xllR_at (rn.grew HG0.out) hi
    have hll := hx _ (List.getElem_mem hi)
    rw [show scanK (heldAll l0) x.scan i = scaleI (rowsK (heldAll l0) i) (andF (x.scan[i].map (shareK (heldAll l0))) 4607182418800017408) by unfold scanK; rw [if_pos (by omega), Int.toNat_natCast, List.getD_eq_getElem?_getD, List.getElem?_eq_getElem hi]; rfl]
    have h1 : ((i : Nat) : Int) < (x.scan.length : Int) := by omega
    have g1 : decide (x.scan.length ≤ i) = false := decide_eq_false (by omega)
    have g2 : decide ((i : Int) < 0) = false := decide_eq_false (by omega)
    have g3 : decide ((x.scan.length : Int) ≤ (i : Int)) = false := decide_eq_false (by omega)
    have HS : Hid (∀ y ∈ x.scan[i], ∀ Ay ky W, Grew W0 W → ExsR (PRow W) Ay y.l → Gives Tryz.prog 41 #[exV y Ay ky, .slice A l0.length k] W (.float .f64 (shareK (heldAll l0) y))) := Lib.hid fun y _ Ay ky W hW hy => rshare_ex l0 hs A k W (ra.grew (HG0.out.trans hW)) _ y (Nat.lt_succ_self _) Ay ky W (Grew.refl _) hy
    have HRw : Hid (∀ W, Grew W0 W → Calls Tryz.prog 43 #[.slice A l0.length k, .int .i64 i] W (HelkF W (saidK l0 i))) := Lib.hid fun W hW => rsaid_any l0 hs i A k W (ra.grew (HG0.out.trans hW))
    have hrr := saidK_rows l0 i
    have hle := andK_le (x.scan[i].map (shareK (heldAll l0)))
    have HSc : Hid (∀ W, Calls Tryz.prog 42 #[.int .i64 (rowsK (heldAll l0) i), .float .f64 (andF (x.scan[i].map (shareK (heldAll l0))) 4607182418800017408)] W fun e w' => e = .returned (.int .i64 (scaleI (rowsK (heldAll l0) i) (andF (x.scan[i].map (shareK (heldAll l0))) 4607182418800017408))) ∧ w' = W) := Lib.hid fun W => rscale_any _ _ (by omega) W
    have HAn : Hid (∀ W Z z, Row W Z (fV (x.scan[i].map (shareK (heldAll l0)))) → Calls Tryz.prog 44 #[.slice Z x.scan[i].length z] W fun e w' => e = .returned (.float .f64 (andF (x.scan[i].map (shareK (heldAll l0))) 4607182418800017408)) ∧ w' = W) := Lib.hid fun W Z z hz => by
      have := fo_rand_any (x.scan[i].map (shareK (heldAll l0))) Z z (by rw [List.length_map]; exact hll) (fun q hq => by obtain ⟨y, _, rfl⟩ := List.mem_map.1 hq; have := shareK_le (heldAll l0) y; omega) W hz
      rwa [List.length_map] at this
    have HRl := Lib.hid rl
    clear ra rn hx hs hout hle rl
    generalize scaleI (rowsK (heldAll l0) i) (andF (x.scan[i].map (shareK (heldAll l0))) 4607182418800017408) = res at *
    generalize andF (x.scan[i].map (shareK (heldAll l0))) 4607182418800017408 = q at *
    rw [← hrr] at HSc
    clear hrr
    generalize saidK l0 i = sx at *
    generalize x.scan[i] = l at *
    have HC : Hid (∀ W, Grew W0 W → b < W.heap.size ∧ W.cell? ⟨b, o + i, none⟩ = some (.slice Y l.length ky)) := Lib.hid fun W hW => cell_grewK hW hb hc
    generalize shareK (heldAll l0) = f at *
    unfold nmC at hW0 ⊢
    unfold Gives
    go_enter Tryz.func12, Tryz.ntmps12
    go_upto_region 1 with fail
    rw [← hW0]
    clear hW0
    go_wp2
    clear x0 m0 m1 m2 m3 m4 m5 hb hc
    go_loopw [7, 8] (fun v i wr => ScaAt W0 f l v i wr) (fun _ i _ => l.length - (intOf i).toNat)
    case atStart => exact ⟨0, none, 0, Nat.zero_le _, rfl, rfl, Grew.refl _, own_none _ _ _ _⟩
    case round =>
      obtain ⟨n, A1, c1, hn, rfl, rfl, hg, ho⟩ := hrel
      have HG := Lib.hid hg
      have HO := Lib.hid ho
      clear hg ho
      obtain ⟨x0, m0, m1, m2, m3, m4, m5⟩ := nm6 (HX0.out.grew HG.out)
      obtain ⟨hb, hc⟩ := HC.out _ HG.out
      by_cases hlt : n < l.length
      · obtain ⟨b1, o1, P, kp, rfl, rp, h9⟩ := exsR_nine (HRl.out.grew HG.out) hlt
        have HSy : Hid (∀ W, Grew wr W → Gives Tryz.prog 41 #[exV l[n] P kp, .slice A l0.length k] W (.float .f64 (f l[n]))) := Lib.hid fun W hW => HS.out _ (List.getElem_mem hlt) P kp W (HG.out.trans hW) (rp.grew hW)
        have HT : Hid (fV ((l.take (n + 1)).map f) = fV ((l.take n).map f) ++ [.float .f64 (f l[n])]) := Lib.hid (by rw [List.take_succ_eq_append_getElem hlt, List.map_append]; simp [fV])
        obtain ⟨_, n0, n1, n2, n3, n4, n5, n6, n7, n8⟩ := h9
        clear rp
        generalize f l[n] = fq at *
        generalize l[n] = y at *
        unfold exV at HSy
        go_wp2_with (first | (go_at_call 41; (with_reducible refine (HSy.out _ (Grew.refl _)).grows.mono ?_); rintro en w8 ⟨rfl, hg8⟩; have HG8 := Lib.hid (HG.out.trans hg8); have HO8 := Lib.hid (own_grewE HO.out hg8); clear hg8) | (at_builtin; refine wpList_appB rfl _ _ 75 43 1 rfl W0.heap.size (.float .f64 0) 8 Tryz.underlying75 infoFl rfl (by decide) (by decide) _ n (fV ((l.take n).map f)) rfl (own_alloc HO8.out (.cells #[.float .f64 fq] 43)) _ 1 1 [.float .f64 fq] rfl rfl (row_one _ _ _ _ rfl) (by simp [Value.oneCell']) (by omega) (by rw [World.size_alloc]; have := HG8.out.size; omega) ?_; intro A9 c9 w9 ho9 hb9; have HG9 := Lib.hid ((HG8.out.alloc (.cells #[.float .f64 fq] 43)).grown hb9 (own_base HO8.out)); have HO9 := Lib.hid ho9; clear ho9 hb9))
        exact ⟨⟨n + 1, A9, c9, by omega, rfl, by go_num, HG9.out, by rw [HT.out]; exact HO9.out⟩, by simp only [intOf]; omega⟩
      · obtain rfl : n = l.length := by omega
        rw [List.take_length] at HO
        obtain ⟨A', c', e', hrow⟩ := own_row HO.out
        injection e' with e1 _ _
        subst e1
        have HRow := Lib.hid hrow
        clear hrow HO
        go_wp2_with (first | (go_at_call 43; (with_reducible refine (HRw.out _ HG.out).mono ?_); rintro en w8 ⟨Bs, js, rfl, hg8, _⟩; have HG := Lib.hid (HG.out.trans hg8); have HRow := Lib.hid (HRow.out.grew hg8); clear hg8) | (go_at_call 44; (with_reducible refine (HAn.out _ _ _ HRow.out).mono ?_); rintro en wz ⟨rfl, hwz⟩; subst hwz) | (go_at_call 42; (with_reducible refine (HSc.out _).mono ?_); rintro en wz ⟨rfl, hwz⟩; subst hwz))
        go_ret
        exact ⟨rfl, HG0.out.trans HG.out⟩
end Go.Proofs.YtbglmcebkpkccaaGreatDoor
/- Layer 29: how many rows the join of tables will have, by the document. Condition: no more than a thousand tables; what is said, conditions and edges in memory that is there. -/
namespace Go.Proofs.YtbglmcebkpkccaaGreatDoor
open Go.RowKit
attribute [local go_sem] more_cell more_frozen more_more more_setCell more_of_drew more_of_drewN lt_more le_more past_cell past_cell2 past_frozen past_frozen2 past_setCell past_setCell2 mid_cell mid_frozen mid_setCell
attribute [local go_sem] fldC0 fldC1 fldS0
attribute [local go_sem ↓] Go.wp_at_zero Go.wp_at_succ
/-- What is gathered of tables, and of pairs of them, by the document. -/
def RzAt (w : World) (sc : Int → Int) (f : Int → Int → Nat) (N : Nat) (set : List Int) (v1 v2 i : Value) (wr : World) : Prop :=
  ∃ (n m1 m2 : Nat) (A1 : Option Addr) (c1 : Nat) (A2 : Option Addr) (c2 : Nat), n ≤ N ∧ m1 = (tabsK n set).length ∧ m2 = (prsTo f N set n).length ∧ i = .int .i64 n ∧ v1 = .slice A1 m1 c1 ∧ v2 = .slice A2 m2 c2 ∧ Grew w wr ∧
    wr.ownsRow w.heap.size 3 1 (.slice A1 m1 c1) m1 (iV ((tabsK n set).map sc)) ∧ wr.ownsRow w.heap.size 43 1 (.slice A2 m2 c2) m2 (fV (prsTo f N set n))
/-- The pairs of one table. -/
def RzIn (w : World) (m0 : Nat) (L : List Nat) (f : Int → Nat) (n N : Nat) (set : List Int) (A1 : Option Addr) (m1 c1 : Nat) (xs : List Value) (v2 i : Value) (wr : World) : Prop :=
  ∃ (q m : Nat) (A2 : Option Addr) (c2 : Nat), n + 1 ≤ q ∧ q ≤ N ∧ m = m0 + (tabsF (n + 1) q set).length ∧ i = .int .i64 q ∧ v2 = .slice A2 m c2 ∧ Grew w wr ∧
    wr.ownsRow w.heap.size 3 1 (.slice A1 m1 c1) m1 xs ∧ wr.ownsRow w.heap.size 43 1 (.slice A2 m c2) m (fV (L ++ (tabsF (n + 1) q set).map f))
theorem tabsK_succ (n : Nat) (set : List Int) : tabsK (n + 1) set = tabsK n set ++ if (n : Int) ∈ set then [(n : Int)] else [] := by
  have h := tabsF_snoc (Nat.zero_le n) set
  rwa [tabsF_zero, tabsF_zero] at h
set_option maxHeartbeats 8000000 in
set_option maxRecDepth 100000 in
theorem refSize_any (l : List Sst) (hm : LitSd l) (x : Nm) (hx : ∀ l ∈ x.scan, l.length ≤ 1000000) (hx1 : x.scan.length ≤ 1000) (hx2 : x.edges.length ≤ 1000000) (set : List Int) (hs : set.length ≤ 1000) (A : Option Addr) (k : Nat) (X : Option Addr) (kx : Nat) (B : Option Addr) (j : Nat) (C : Option Addr) (c : Nat) (D : Option Addr) (d : Nat) (E : Option Addr) (e : Nat) (S : Option Addr) (ks : Nat) (w : World)
    (ra : SstsR (PRow w) A l) (rn : XllR (PRow w) X x.scan) (re : EdsR (PRow w) B x.edges) (rs : Row w S (iV set)) :
    Gives Tryz.prog 17 #[.agg (nmC x X kx B j C c D d E e), .slice A l.length k, .slice S set.length ks] w (.int .i64 (sizeK (heldAll l) x.scan x.edges set)) := by
  have HSc : Hid (∀ a W, Grew w W → Gives Tryz.prog 12 #[.agg (nmC x X kx B j C c D d E e), .slice A l.length k, .int .i64 a] W (.int .i64 (scanK (heldAll l) x.scan a))) := Lib.hid fun a W hW => rscan_any l hm x hx a A k X kx B j C c D d E e W (ra.grew hW) (rn.grew hW)
  have HPr : Hid (∀ a b W, Grew w W → Gives Tryz.prog 15 #[.agg (nmC x X kx B j C c D d E e), .slice A l.length k, .int .i64 a, .int .i64 b] W (.float .f64 (pairK (heldAll l) x.edges a b))) := Lib.hid fun a b W hW => rpair_any l hm x hx2 a b A k X kx B j C c D d E e W (ra.grew hW) (re.grew hW)
  have HHa : Hid (∀ (t : Int) W, Grew w W → Gives Tryz.prog 56 #[.slice S set.length ks, .int .i64 t] W (.bool (decide (t ∈ set)))) := Lib.hid fun t W hW => rhas21_any set t S ks (by omega) W (rs.grew hW)
  obtain ⟨W0, hW0⟩ : ∃ W0, W0 = w.alloc (.cells (nmC x X kx B j C c D d E e) 39) := ⟨_, rfl⟩
  have HG0 : Hid (Grew w W0) := Lib.hid (by rw [hW0]; exact (Grew.refl w).alloc _)
  have HX0 : Hid (Blok W0 w.heap.size 39 (nmC x X kx B j C c D d E e)) := Lib.hid (by rw [hW0]; exact Blok.new _ _ _ _ rfl)
  obtain ⟨T, hT⟩ : ∃ T, T = tabsK x.scan.length set := ⟨_, rfl⟩
  have hTn : T.length ≤ 1000 := by rw [hT]; exact Nat.le_trans (tabsK_len _ _) hx1
  have hsc : ∀ q ∈ pairsK (pairK (heldAll l) x.edges) T, q ≤ 4607182418800017408 := pairsK_mem (fun a b => andK_le _) T
  have hpl : (pairsK (pairK (heldAll l) x.edges) T).length ≤ 1000000 := Nat.le_trans (pairsK_len _ T) (by have := Nat.mul_le_mul hTn hTn; omega)
  have hle := andK_le (pairsK (pairK (heldAll l) x.edges) T)
  have hres : sizeK (heldAll l) x.scan x.edges set = scaleI (foldM (T.map (scanK (heldAll l) x.scan)) 1) (andF (pairsK (pairK (heldAll l) x.edges) T) 4607182418800017408) := by rw [hT]; rfl
  rw [hres]
  have HMu : Hid (∀ W Z z m, m = T.length → Row W Z (iV (T.map (scanK (heldAll l) x.scan))) → Calls Tryz.prog 57 #[.slice Z m z] W fun e w' => e = .returned (.int .i64 (foldM (T.map (scanK (heldAll l) x.scan)) 1)) ∧ w' = W) := Lib.hid fun W Z z m hm hz => by
    have := rfoldM_any (T.map (scanK (heldAll l) x.scan)) Z z (by rw [List.length_map]; omega) W hz
    rwa [List.length_map, ← hm] at this
  have HAn : Hid (∀ W Z z m, m = (pairsK (pairK (heldAll l) x.edges) T).length → Row W Z (fV (pairsK (pairK (heldAll l) x.edges) T)) → Calls Tryz.prog 44 #[.slice Z m z] W fun e w' => e = .returned (.float .f64 (andF (pairsK (pairK (heldAll l) x.edges) T) 4607182418800017408)) ∧ w' = W) := Lib.hid fun W Z z m hm hz => by
    rw [hm]
    exact fo_rand_any _ Z z hpl (fun q hq => by have := hsc q hq; omega) W hz
  have HSl : Hid (∀ W, Calls Tryz.prog 42 #[.int .i64 (foldM (T.map (scanK (heldAll l) x.scan)) 1), .float .f64 (andF (pairsK (pairK (heldAll l) x.edges) T) 4607182418800017408)] W fun e w' => e = .returned (.int .i64 (scaleI (foldM (T.map (scanK (heldAll l) x.scan)) 1) (andF (pairsK (pairK (heldAll l) x.edges) T) 4607182418800017408))) ∧ w' = W) := Lib.hid fun W => rscale_any _ _ (by omega) W
  clear hsc hpl hle hres
  have HPe : Hid (prsTo (pairK (heldAll l) x.edges) x.scan.length set x.scan.length = pairsK (pairK (heldAll l) x.edges) T) := Lib.hid (by rw [hT]; exact prsTo_all _ _ _)
  have HTe : Hid (tabsK x.scan.length set = T) := Lib.hid hT.symm
  clear hT hm hx hx2 hs ra rn re rs hTn
  generalize scaleI (foldM (T.map (scanK (heldAll l) x.scan)) 1) (andF (pairsK (pairK (heldAll l) x.edges) T) 4607182418800017408) = res at *
  generalize andF (pairsK (pairK (heldAll l) x.edges) T) 4607182418800017408 = qa at *
  generalize foldM (T.map (scanK (heldAll l) x.scan)) 1 = qm at *
  generalize scanK (heldAll l) x.scan = sc at *
  generalize pairK (heldAll l) x.edges = f at *
  have HNx := Lib.hid hx1
  clear hx1
  have HSc0 : Hid (∀ a W, Grew W0 W → Gives Tryz.prog 12 #[.agg (nmC x X kx B j C c D d E e), .slice A l.length k, .int .i64 a] W (.int .i64 (sc a))) := Lib.hid fun a W hW => HSc.out a W (HG0.out.trans hW)
  have HPr0 : Hid (∀ a b W, Grew W0 W → Gives Tryz.prog 15 #[.agg (nmC x X kx B j C c D d E e), .slice A l.length k, .int .i64 a, .int .i64 b] W (.float .f64 (f a b))) := Lib.hid fun a b W hW => HPr.out a b W (HG0.out.trans hW)
  clear HSc HPr
  unfold nmC at HSc0 HPr0 hW0 ⊢
  unfold Gives
  go_enter Tryz.func17, Tryz.ntmps17
  go_upto_region 1 with fail
  rw [← hW0]
  clear hW0
  go_wp2
  go_loopw [7, 8, 9] (fun v1 v2 i wr => RzAt W0 sc f x.scan.length set v1 v2 i wr) (fun _ _ i _ => x.scan.length - (intOf i).toNat)
  case atStart => exact ⟨0, 0, 0, none, 0, none, 0, Nat.zero_le _, by simp [tabsK], by simp [prsTo], rfl, rfl, rfl, Grew.refl _, by simpa [tabsK, iV] using own_none W0 W0.heap.size 3 1, by simpa [prsTo, fV] using own_none W0 W0.heap.size 43 1⟩
  case round =>
    obtain ⟨n, m1, m2, A1, c1, A2, c2, hn, hm1, hm2, rfl, rfl, rfl, hg, ho1, ho2⟩ := hrel
    have HG := Lib.hid hg
    have HO1 := Lib.hid ho1
    have HO2 := Lib.hid ho2
    have hNx := HNx.out
    have hmb1 : m1 ≤ 1000 := by rw [hm1]; exact Nat.le_trans (tabsK_len _ _) (by omega)
    have hmb2 : m2 ≤ 1000000 := by rw [hm2]; exact Nat.le_trans (prsTo_len f x.scan.length set n) (by have := Nat.mul_le_mul hNx (Nat.le_trans hn hNx); omega)
    have HM1 := Lib.hid hm1
    have HM2 := Lib.hid hm2
    clear hg ho1 ho2 hm1 hm2 hNx
    obtain ⟨x0, m0, m1', m2', m3, m4, m5⟩ := nm6 (HX0.out.grew HG.out)
    by_cases hlt : n < x.scan.length
    · by_cases hin : (n : Int) ∈ set
      · have HHn : Hid (∀ W, Grew w W → Gives Tryz.prog 56 #[.slice S set.length ks, .int .i64 n] W (.bool true)) := Lib.hid fun W hW => by have := HHa.out n W hW; rwa [decide_eq_true hin] at this
        have HT1 : Hid (tabsK (n + 1) set = tabsK n set ++ [(n : Int)]) := Lib.hid (by rw [tabsK_succ, if_pos hin])
        have HT2 : Hid (prsTo f x.scan.length set (n + 1) = prsTo f x.scan.length set n ++ (tabsF (n + 1) x.scan.length set).map (f n)) := Lib.hid (by rw [prsTo, if_pos hin])
        have HTs : Hid (iV ((tabsK (n + 1) set).map sc) = iV ((tabsK n set).map sc) ++ [.int .i64 (sc n)]) := Lib.hid (by rw [HT1.out, List.map_append]; simp [iV])
        have HMs : Hid (m1 + 1 = (tabsK (n + 1) set).length) := Lib.hid (by rw [HT1.out, List.length_append, ← HM1.out]; rfl)
        have HSa : Hid (∀ W, Grew W0 W → Gives Tryz.prog 12 #[.agg #[.int .i64 x.core, .slice X x.scan.length kx, .slice B x.edges.length j, .slice C x.rest.length c, .slice D x.late.length d, .slice E x.wh.length e], .slice A l.length k, .int .i64 n] W (.int .i64 (sc n))) := Lib.hid fun W hW => HSc0.out n W hW
        have HPa : Hid (∀ (q : Nat) W, Grew W0 W → Gives Tryz.prog 15 #[.agg #[.int .i64 x.core, .slice X x.scan.length kx, .slice B x.edges.length j, .slice C x.rest.length c, .slice D x.late.length d, .slice E x.wh.length e], .slice A l.length k, .int .i64 n, .int .i64 q] W (.float .f64 (f n q))) := Lib.hid fun q W hW => HPr0.out n q W hW
        clear hin
        generalize hfa : f n = fa at *
        generalize sc n = sa at *
        have hnx : n + 1 ≤ 1000 := by have := HNx.out; omega
        go_upto_region 7 with (go_at_call 56; (with_reducible refine (HHn.out _ (HG0.out.trans HG.out)).grows.mono ?_); rintro en w7 ⟨rfl, hg7⟩; have HG7 := Lib.hid (HG.out.trans hg7); have HO17 := Lib.hid (own_grewE HO1.out hg7); have HO27 := Lib.hid (own_grewE HO2.out hg7); clear hg7)
        clear x0 m0 m1' m2' m3 m4 m5
        obtain ⟨x0, m0, m1', m2', m3, m4, m5⟩ := nm6 (HX0.out.grew HG7.out)
        go_wp2_with (first | (go_at_call 12; (with_reducible refine (HSa.out _ HG7.out).grows.mono ?_); rintro en w8 ⟨rfl, hg8⟩; have HG8 := Lib.hid (HG7.out.trans hg8); have HO18 := Lib.hid (own_grewE HO17.out hg8); have HO28 := Lib.hid (own_grewE HO27.out hg8); clear hg8) | (at_builtin; refine wpList_appB rfl _ _ 31 3 1 rfl W0.heap.size (.int .i64 0) 8 Tryz.underlying31 infoI rfl (by decide) (by decide) _ m1 (iV ((tabsK n set).map sc)) rfl (own_alloc HO18.out (.cells #[.int .i64 sa] 3)) _ 1 1 [.int .i64 sa] rfl rfl (row_one _ _ _ _ rfl) (by simp [Value.oneCell']) (by omega) (by rw [World.size_alloc]; have := HG8.out.size; omega) ?_; intro A9 c9 w9 ho9 hb9; rw [← HTs.out] at ho9; have HG9 := Lib.hid ((HG8.out.alloc (.cells #[.int .i64 sa] 3)).grown hb9 (own_base HO18.out)); have HO19 := Lib.hid ho9; have HO29 := Lib.hid (own_grown (own_alloc HO28.out _) hb9 (own_apart (own_alloc HO28.out (.cells #[.int .i64 sa] 3)) (own_alloc HO18.out (.cells #[.int .i64 sa] 3)) (by decide))); clear ho9 hb9))
        clear x0 m0 m1' m2' m3 m4 m5 HO1 HO2 HO17 HO27 HO18 HO28 HG7 HG8 HHn HSa HG
        go_loopw [8, 10] (fun v2 i wr => RzIn W0 m2 (prsTo f x.scan.length set n) fa n x.scan.length set A9 (m1 + 1) c9 (iV ((tabsK (n + 1) set).map sc)) v2 i wr) (fun _ i _ => x.scan.length - (intOf i).toNat)
        case atStart => exact ⟨n + 1, m2, A2, c2, Nat.le_refl _, by omega, by simp [tabsF], by go_num, rfl, HG9.out, HO19.out, by simpa [tabsF] using HO29.out⟩
        case round =>
          obtain ⟨q, m', A3, c3, hq0, hq, hm', rfl, rfl, hg, ho1, ho2⟩ := hrel
          have HG := Lib.hid hg
          have HP1' := Lib.hid ho1
          have HP2' := Lib.hid ho2
          have hml : m' ≤ 2000000 := by rw [hm']; have := tabsF_len (n + 1) q set; have := HNx.out; omega
          have HM' := Lib.hid hm'
          clear hg ho1 ho2 HO19 HO29 HG9 hm'
          obtain ⟨x0, m0, m1', m2', m3, m4, m5⟩ := nm6 (HX0.out.grew HG.out)
          by_cases hlt2 : q < x.scan.length
          · have hqx : q + 1 ≤ 1000 := by have := HNx.out; omega
            by_cases hin2 : (q : Int) ∈ set
            · have HHq : Hid (∀ W, Grew w W → Gives Tryz.prog 56 #[.slice S set.length ks, .int .i64 q] W (.bool true)) := Lib.hid fun W hW => by have := HHa.out q W hW; rwa [decide_eq_true hin2] at this
              have HF1 : Hid (tabsF (n + 1) (q + 1) set = tabsF (n + 1) q set ++ [(q : Int)]) := Lib.hid (by rw [tabsF_snoc hq0, if_pos hin2])
              have HTs2 : Hid (fV (prsTo f x.scan.length set n ++ (tabsF (n + 1) (q + 1) set).map fa) = fV (prsTo f x.scan.length set n ++ (tabsF (n + 1) q set).map fa) ++ [.float .f64 (fa q)]) := Lib.hid (by rw [HF1.out, List.map_append, ← List.append_assoc]; simp [fV])
              have HMq : Hid (m' + 1 = m2 + (tabsF (n + 1) (q + 1) set).length) := Lib.hid (by rw [HF1.out, List.length_append, HM'.out]; rfl)
              have HPb : Hid (∀ W, Grew W0 W → Gives Tryz.prog 15 #[.agg #[.int .i64 x.core, .slice X x.scan.length kx, .slice B x.edges.length j, .slice C x.rest.length c, .slice D x.late.length d, .slice E x.wh.length e], .slice A l.length k, .int .i64 n, .int .i64 q] W (.float .f64 (fa q))) := Lib.hid fun W hW => HPa.out q W hW
              clear hin2
              generalize fa q = fq at *
              go_upto_region 12 with (go_at_call 56; (with_reducible refine (HHq.out _ (HG0.out.trans HG.out)).grows.mono ?_); rintro en w7 ⟨rfl, hg7⟩; have HG7 := Lib.hid (HG.out.trans hg7); have HO17 := Lib.hid (own_grewE HP1'.out hg7); have HO27 := Lib.hid (own_grewE HP2'.out hg7); clear hg7)
              clear x0 m0 m1' m2' m3 m4 m5
              obtain ⟨x0, m0, m1', m2', m3, m4, m5⟩ := nm6 (HX0.out.grew HG7.out)
              go_wp2_with (first | (go_at_call 15; (with_reducible refine (HPb.out _ HG7.out).grows.mono ?_); rintro en w8 ⟨rfl, hg8⟩; have HG8 := Lib.hid (HG7.out.trans hg8); have HO18 := Lib.hid (own_grewE HO17.out hg8); have HO28 := Lib.hid (own_grewE HO27.out hg8); clear hg8) | (at_builtin; refine wpList_appB rfl _ _ 75 43 1 rfl W0.heap.size (.float .f64 0) 8 Tryz.underlying75 infoFl rfl (by decide) (by decide) _ m' (fV (prsTo f x.scan.length set n ++ (tabsF (n + 1) q set).map fa)) rfl (own_alloc HO28.out (.cells #[.float .f64 fq] 43)) _ 1 1 [.float .f64 fq] rfl rfl (row_one _ _ _ _ rfl) (by simp [Value.oneCell']) (by omega) (by rw [World.size_alloc]; have := HG8.out.size; omega) ?_; intro A9' c9' w9' ho9 hb9; rw [← HTs2.out] at ho9; have HG9' := Lib.hid ((HG8.out.alloc (.cells #[.float .f64 fq] 43)).grown hb9 (own_base HO28.out)); have HO29' := Lib.hid ho9; have HO19' := Lib.hid (own_grown (own_alloc HO18.out _) hb9 (own_apart (own_alloc HO18.out (.cells #[.float .f64 fq] 43)) (own_alloc HO28.out (.cells #[.float .f64 fq] 43)) (by decide))); clear ho9 hb9))
              exact ⟨⟨q + 1, m' + 1, A9', c9', by omega, by omega, HMq.out, by go_num, rfl, HG9'.out, HO19'.out, HO29'.out⟩, by simp only [intOf]; omega⟩
            · have HHq : Hid (∀ W, Grew w W → Gives Tryz.prog 56 #[.slice S set.length ks, .int .i64 q] W (.bool false)) := Lib.hid fun W hW => by have := HHa.out q W hW; rwa [decide_eq_false hin2] at this
              have HF1 : Hid (tabsF (n + 1) (q + 1) set = tabsF (n + 1) q set) := Lib.hid (by rw [tabsF_snoc hq0, if_neg hin2, List.append_nil])
              clear hin2
              go_wp2_with (go_at_call 56; (with_reducible refine (HHq.out _ (HG0.out.trans HG.out)).grows.mono ?_); rintro en w7 ⟨rfl, hg7⟩; have HG7 := Lib.hid (HG.out.trans hg7); have HO17 := Lib.hid (own_grewE HP1'.out hg7); have HO27 := Lib.hid (own_grewE HP2'.out hg7); clear hg7)
              exact ⟨⟨q + 1, m', A3, c3, by omega, by omega, by rw [HF1.out]; exact HM'.out, by go_num, rfl, HG7.out, HO17.out, by rw [HF1.out]; exact HO27.out⟩, by simp only [intOf]; omega⟩
          · obtain rfl : q = x.scan.length := by omega
            rw [← HT2.out] at HP2'
            have HMf : Hid (m' = (prsTo f x.scan.length set (n + 1)).length) := Lib.hid (by rw [HT2.out, List.length_append, List.length_map, ← HM2.out]; exact HM'.out)
            clear hq hq0
            go_wp2
            exact ⟨⟨n + 1, m1 + 1, m', A9, c9, A3, c3, by omega, HMs.out, HMf.out, by go_num, rfl, rfl, HG.out, HP1'.out, HP2'.out⟩, by simp only [intOf]; omega⟩
      · have HHn : Hid (∀ W, Grew w W → Gives Tryz.prog 56 #[.slice S set.length ks, .int .i64 n] W (.bool false)) := Lib.hid fun W hW => by have := HHa.out n W hW; rwa [decide_eq_false hin] at this
        have HT1 : Hid (tabsK (n + 1) set = tabsK n set) := Lib.hid (by rw [tabsK_succ, if_neg hin, List.append_nil])
        have HT2 : Hid (prsTo f x.scan.length set (n + 1) = prsTo f x.scan.length set n) := Lib.hid (by rw [prsTo, if_neg hin, List.append_nil])
        have hnx : n + 1 ≤ 1000 := by have := HNx.out; omega
        clear hin
        go_wp2_with (go_at_call 56; (with_reducible refine (HHn.out _ (HG0.out.trans HG.out)).grows.mono ?_); rintro en w7 ⟨rfl, hg7⟩; have HG7 := Lib.hid (HG.out.trans hg7); have HO17 := Lib.hid (own_grewE HO1.out hg7); have HO27 := Lib.hid (own_grewE HO2.out hg7); clear hg7)
        exact ⟨⟨n + 1, m1, m2, A1, c1, A2, c2, by omega, by rw [HT1.out]; exact HM1.out, by rw [HT2.out]; exact HM2.out, by go_num, rfl, rfl, HG7.out, by rw [HT1.out]; exact HO17.out, by rw [HT2.out]; exact HO27.out⟩, by simp only [intOf]; omega⟩
    · obtain rfl : n = x.scan.length := by omega
      rw [HTe.out] at HO1 HM1
      rw [HPe.out] at HO2 HM2
      obtain ⟨A1', c1', e1', hr1⟩ := own_row HO1.out
      injection e1' with e1' _ _
      subst e1'
      obtain ⟨A2', c2'', e2', hr2⟩ := own_row HO2.out
      injection e2' with e2' _ _
      subst e2'
      have HR1 := Lib.hid hr1
      have HR2 := Lib.hid hr2
      clear hr1 hr2 HO1 HO2
      go_wp2_with (first | (go_at_call 57; (with_reducible refine (HMu.out _ _ _ _ HM1.out HR1.out).mono ?_); rintro en wz ⟨rfl, hwz⟩; subst hwz) | (go_at_call 44; (with_reducible refine (HAn.out _ _ _ _ HM2.out HR2.out).mono ?_); rintro en wz ⟨rfl, hwz⟩; subst hwz) | (go_at_call 42; (with_reducible refine (HSl.out _).mono ?_); rintro en wz ⟨rfl, hwz⟩; subst hwz))
      go_ret
      exact ⟨rfl, HG0.out.trans HG.out⟩
end Go.Proofs.YtbglmcebkpkccaaGreatDoor
/- Layer 29: a query whose tables, conditions and edges are few. No condition. -/
namespace Go.Proofs.YtbglmcebkpkccaaGreatDoor
open Go.RowKit
/-- A norm whose tables, conditions and edges are few. -/
structure FewX (x : Nm) : Prop where
  tabs : x.scan.length ≤ 12
  scan : ∀ l ∈ x.scan, l.length ≤ 1000000
  edges : x.edges.length ≤ 1000000
theorem fewX_of {sr : List Fr} {wh : Ex} (h : sr.length ≤ 12) (hn : ∀ f ∈ sr, f.on.nodes ≤ 200) (hw : wh.nodes ≤ 200) : FewX (normX sr wh) := by
  have hf := few16 (by omega : sr.length ≤ 1000) hn hw
  refine ⟨?_, fun l hl => (hf.scan l hl).1, hf.edges⟩
  show (nS (coreN sr) _).length ≤ _
  rw [nS_len]
  have := coreN_le sr
  omega
end Go.Proofs.YtbglmcebkpkccaaGreatDoor
/- Layer 30: lists of tables: rising, all of a core, without one; is each there: by program and document. Condition: no more than a thousand tables; a million numbers in memory. -/
namespace Go.Proofs.YtbglmcebkpkccaaGreatDoor
open Go.RowKit
attribute [local go_sem] more_cell more_frozen more_more more_setCell more_of_drew more_of_drewN lt_more le_more past_cell past_cell2 past_frozen past_frozen2 past_setCell past_setCell2 mid_cell mid_frozen mid_setCell
attribute [local go_sem] fldC0 fldC1 fldS0
attribute [local go_sem ↓] Go.wp_at_zero Go.wp_at_succ
theorem wpList_make_capO {P : Program} (w : World) {ops : Array Oper} {rest : List Oper} {o : Oper} {a : Act} {Q : Exit → Act → World → Prop}
    (hg : o.guard = none) (l c : Operand) (t : TypeId) (hop : o.op = Op.makeSlice t l c)
    (e : TypeId) (i : TypeInfo) (z : Value) (ht : P.underlying t = some (.slice e)) (hi : P.info? e = some i) (hz : i.zero = some z) (hsize : i.size = 1) (hz1 : z.cells = #[z])
    (kl kc : IntKind) (n : Nat) (hl : a.eval l = .int kl 0) (hc : a.eval c = .int kc (n : Int)) (hbytes : i.bytes * n ≤ 281474976710656) (h63 : n ≤ 9223372036854775807)
    (hK : wpList P ops Q rest (a.put o.dst (.slice (some ⟨w.heap.size, 0, none⟩) 0 n)) (w.alloc (.cells (madeCells #[z] n) e))) :
    wpList P ops Q (o :: rest) a w := by
  refine wpList_plain hg fun K hK' => ?_
  have hb' : (i.bytes : Int) * (n : Int) ≤ 281474976710656 := by
    have h : ((i.bytes * n : Nat) : Int) ≤ 281474976710656 := by omega
    rwa [Int.natCast_mul] at h
  have hrun := run_make (P := P) w t e i z ht hi hz kl kc 0 n (Int.le_refl _) (by omega) hb' (by omega)
  simp only [Int.toNat_zero, Int.toNat_natCast, hsize, Nat.mul_one, hz1] at hrun
  unfold Oper.wp
  simp [execOp, hop, hl, hc, hrun, Result.andThen]
  exact hK' _ _ hK
theorem risI_succ (n : Nat) : risI (n + 1) = risI n ++ [(n : Int)] := by simp [risI, List.range_succ]
def RiAt (w : World) (n : Nat) (v i : Value) (wr : World) : Prop := ∃ j : Nat, j ≤ n ∧ i = .int .i64 j ∧ ∃ (A : Option Addr) (c : Nat), v = .slice A j c ∧ Grew w wr ∧ wr.ownsRow w.heap.size 3 1 (.slice A j c) j (iV (risI j))
set_option maxHeartbeats 2000000 in
theorem lrising_any (n : Nat) (hn : n ≤ 1000) (w : World) : Calls Tryz.prog 61 #[.int .i64 n] w (OwnI w (risI n)) := by
  obtain ⟨i0, hi, hz0, hz1, hz2⟩ := info_parts infoI
  have HI := Lib.hid hi
  have HI0 := Lib.hid hz0
  have HI1 := Lib.hid hz1
  have HI2 := Lib.hid hz2
  have hmx : (if (0 : Int) < (n : Int) then (n : Int) else 0) = (n : Int) := by split <;> omega
  clear hi hz0 hz1 hz2
  go_enter Tryz.func61, Tryz.ntmps61
  go_wp2_with (at_make; refine wpList_make_capO _ rfl _ _ 31 rfl 3 i0 (.int .i64 0) Tryz.underlying31 HI.out HI0.out HI1.out rfl _ _ n rfl rfl (by rw [HI2.out]; omega) (by omega) ?_)
  obtain ⟨W1, hW1⟩ : ∃ W1, W1 = w.alloc (.cells (madeCells #[.int .i64 0] n) 3) := ⟨_, rfl⟩
  have HO1 : Hid (W1.ownsRow w.heap.size 3 1 (.slice (some ⟨w.heap.size, 0, none⟩) 0 n) 0 (iV [])) := Lib.hid (by rw [hW1]; exact World.ownsRow_made w _ n (Nat.le_refl _) (by unfold maxLen; omega) (by rw [size_madeCells, Nat.mul_one]))
  have HG1 : Hid (Grew w W1) := Lib.hid (by rw [hW1]; exact (Grew.refl w).alloc _)
  clear HI HI0 HI1 HI2
  go_loopw [3, 9] (fun v i wr => RiAt w n v i wr) (fun _ i _ => n - (intOf i).toNat)
  case atStart => exact ⟨0, Nat.zero_le _, rfl, _, _, rfl, by rw [← hW1]; exact HG1.out, by rw [← hW1]; exact HO1.out⟩
  case round =>
    obtain ⟨j, hj, rfl, A, c, rfl, hg, ho⟩ := hrel
    have HG := Lib.hid hg
    have HO := Lib.hid ho
    clear hg ho hmx hW1 HO1 HG1
    by_cases h : j < n
    · have HT : Hid (iV (risI (j + 1)) = iV (risI j) ++ [.int .i64 j]) := Lib.hid (by rw [risI_succ]; simp [iV])
      go_wp2_with (at_builtin; refine wpList_app rfl _ _ 31 3 rfl w (.int .i64 0) 8 Tryz.underlying31 infoI rfl (by decide) _ j (iV (risI j)) rfl (own_alloc HO.out _) _ 1 1 [.int .i64 j] rfl rfl (row_one _ _ _ _ rfl) (by simp [Value.oneCell']) (by omega) (HG.out.alloc _) ?_; intro A' c' w' ho' _ hg' _ _; have HO2 := Lib.hid ho'; have HG2 := Lib.hid hg'; clear ho' hg')
      exact ⟨⟨j + 1, by omega, by go_num, A', c', rfl, HG2.out, by rw [HT.out]; exact HO2.out⟩, by simp only [intOf]; omega⟩
    · obtain rfl : j = n := by omega
      go_wp2
      go_ret
      exact ⟨A, c, by rw [risI_len]; rfl, HG.out, by rw [risI_len]; exact HO.out⟩
set_option maxHeartbeats 2000000 in
/-- All tables of a core. -/
theorem rtables_any (x : Nm) (hx : x.scan.length ≤ 1000) (X : Option Addr) (kx : Nat) (B : Option Addr) (j : Nat) (C : Option Addr) (c : Nat) (D : Option Addr) (d : Nat) (E : Option Addr) (e : Nat) (w : World) :
    Calls Tryz.prog 67 #[.agg (nmC x X kx B j C c D d E e)] w (OwnI w (risI x.scan.length)) := by
  obtain ⟨W0, hW0⟩ : ∃ W0, W0 = w.alloc (.cells (nmC x X kx B j C c D d E e) 39) := ⟨_, rfl⟩
  have HG0 : Hid (Grew w W0) := Lib.hid (by rw [hW0]; exact (Grew.refl w).alloc _)
  have HX0 : Hid (Blok W0 w.heap.size 39 (nmC x X kx B j C c D d E e)) := Lib.hid (by rw [hW0]; exact Blok.new _ _ _ _ rfl)
  unfold nmC at hW0 ⊢
  go_enter Tryz.func67, Tryz.ntmps67
  go_upto_region 1 with fail
  rw [← hW0]
  clear hW0
  go_wp2
  go_loopw [3, 4] (fun v i wr => RiAt W0 x.scan.length v i wr) (fun _ i _ => x.scan.length - (intOf i).toNat)
  case atStart => exact ⟨0, Nat.zero_le _, rfl, none, 0, rfl, Grew.refl _, own_none _ _ _ _⟩
  case round =>
    obtain ⟨q, hq, rfl, A, c, rfl, hg, ho⟩ := hrel
    have HG := Lib.hid hg
    have HO := Lib.hid ho
    clear hg ho
    obtain ⟨x0, m0, m1, m2, m3, m4, m5⟩ := nm6 (HX0.out.grew HG.out)
    generalize hNl : x.scan.length = n at *
    by_cases h : q < n
    · have HT : Hid (iV (risI (q + 1)) = iV (risI q) ++ [.int .i64 q]) := Lib.hid (by rw [risI_succ]; simp [iV])
      go_wp2_with (at_builtin; refine wpList_app rfl _ _ 31 3 rfl W0 (.int .i64 0) 8 Tryz.underlying31 infoI rfl (by decide) _ q (iV (risI q)) rfl (own_alloc HO.out _) _ 1 1 [.int .i64 q] rfl rfl (row_one _ _ _ _ rfl) (by simp [Value.oneCell']) (by omega) (HG.out.alloc _) ?_; intro A' c' w' ho' _ hg' _ _; have HO2 := Lib.hid ho'; have HG2 := Lib.hid hg'; clear ho' hg')
      exact ⟨⟨q + 1, by omega, by go_num, A', c', rfl, HG2.out, by rw [HT.out]; exact HO2.out⟩, by simp only [intOf]; omega⟩
    · obtain rfl : q = n := by omega
      go_wp2
      go_ret
      exact ⟨A, c, by rw [risI_len]; rfl, HG0.out.trans HG.out, by rw [risI_len]; exact own_le HO.out HG0.out.size⟩
/-- A list without a number. -/
def WoAt (w : World) (l : List Int) (t : Int) (v i : Value) (wr : World) : Prop := ∃ (j m : Nat) (A : Option Addr) (c : Nat), j ≤ l.length ∧ m = (wout (l.take j) t).length ∧ i = .int .i64 j ∧ v = .slice A m c ∧ Grew w wr ∧ wr.ownsRow w.heap.size 3 1 (.slice A m c) m (iV (wout (l.take j) t))
set_option maxHeartbeats 2000000 in
theorem rwithout_any (l : List Int) (t : Int) (hl : l.length ≤ 1000000) (A : Option Addr) (k : Nat) (w : World) (ra : Row w A (iV l)) : Calls Tryz.prog 70 #[.slice A l.length k, .int .i64 t] w (OwnI w (wout l t)) := by
  have RA := Lib.hid ra
  clear ra
  go_enter Tryz.func70, Tryz.ntmps70
  go_wp2
  go_loopw [5, 6] (fun v i wr => WoAt w l t v i wr) (fun _ i _ => l.length - (intOf i).toNat)
  case atStart => exact ⟨0, 0, none, 0, Nat.zero_le _, by simp [wout], rfl, rfl, Grew.refl _, by simpa [wout, iV] using own_none w w.heap.size 3 1⟩
  case round =>
    obtain ⟨j, m, A1, c1, hj, hm, rfl, rfl, hg, ho⟩ := hrel
    have HG := Lib.hid hg
    have HO := Lib.hid ho
    have HM := Lib.hid hm
    have hmn : m ≤ j := by rw [hm]; exact Nat.le_trans (List.length_filter_le _ _) (by rw [List.length_take]; omega)
    clear hg ho hm
    by_cases h : j < l.length
    · obtain ⟨b, o, rfl, hb, hc⟩ := rowI_at (RA.out.grew HG.out) h
      have HT1 : Hid (l[j] ≠ t → wout (l.take (j + 1)) t = wout (l.take j) t ++ [l[j]]) := Lib.hid fun hne => by unfold wout; rw [List.take_succ_eq_append_getElem h, List.filter_append]; simp [hne]
      have HT0 : Hid (l[j] = t → wout (l.take (j + 1)) t = wout (l.take j) t) := Lib.hid fun he => by unfold wout; rw [List.take_succ_eq_append_getElem h, List.filter_append]; simp [he]
      generalize l[j] = y at *
      by_cases hy : y = t
      · have hy2 : (y != t) = false := by simp [hy]
        have HT := Lib.hid (HT0.out hy)
        clear hy HT0 HT1
        go_wp2
        exact ⟨⟨j + 1, m, A1, c1, by omega, by rw [HT.out]; exact HM.out, by go_num, rfl, HG.out, by rw [HT.out]; exact HO.out⟩, by simp only [intOf]; omega⟩
      · have hy2 : (y != t) = true := by simp [hy]
        have HT := Lib.hid (HT1.out hy)
        clear hy HT0 HT1
        have HN : Hid (iV (wout (l.take (j + 1)) t) = iV (wout (l.take j) t) ++ [.int .i64 y]) := Lib.hid (by rw [HT.out]; simp [iV])
        have HN2 : Hid ((wout (l.take (j + 1)) t).length = m + 1) := Lib.hid (by rw [HT.out, List.length_append, ← HM.out]; rfl)
        go_wp2_with (at_builtin; refine wpList_app rfl _ _ 31 3 rfl w (.int .i64 0) 8 Tryz.underlying31 infoI rfl (by decide) _ m (iV (wout (l.take j) t)) rfl (own_alloc HO.out _) _ 1 1 [.int .i64 y] rfl rfl (row_one _ _ _ _ rfl) (by simp [Value.oneCell']) (by omega) (HG.out.alloc _) ?_; intro A' c' w' ho' _ hg' _ _; have HO2 := Lib.hid ho'; have HG2 := Lib.hid hg'; clear ho' hg')
        exact ⟨⟨j + 1, m + 1, A', c', by omega, HN2.out.symm, by go_num, rfl, HG2.out, by rw [HN.out]; exact HO2.out⟩, by simp only [intOf]; omega⟩
    · obtain rfl : j = l.length := by omega
      rw [List.take_length] at HO HM
      go_wp2
      go_ret
      exact ⟨A1, c1, by rw [← HM.out]; rfl, HG.out, by rw [← HM.out]; exact HO.out⟩
/-- Is each table there, and nothing else? By the document. -/
def RrAt (w : World) (n : Nat) (l : List Int) (i : Value) (wr : World) : Prop := ∃ j : Nat, j ≤ n ∧ i = .int .i64 j ∧ Grew w wr ∧ ∀ t : Nat, t < j → (t : Int) ∈ l
set_option maxHeartbeats 2000000 in
theorem rright_any (x : Nm) (hx : x.scan.length ≤ 1000) (l : List Int) (hl : l.length ≤ 1000000) (S : Option Addr) (ks : Nat) (X : Option Addr) (kx : Nat) (B : Option Addr) (j : Nat) (C : Option Addr) (c : Nat) (D : Option Addr) (d : Nat) (E : Option Addr) (e : Nat) (w : World) (rs : Row w S (iV l)) :
    Gives Tryz.prog 20 #[.agg (nmC x X kx B j C c D d E e), .slice S l.length ks] w (.bool (decide (rightP x.scan.length l))) := by
  have HH : Hid (∀ (t : Int) W, Grew w W → Gives Tryz.prog 56 #[.slice S l.length ks, .int .i64 t] W (.bool (decide (t ∈ l)))) := Lib.hid fun t W hW => rhas21_any l t S ks hl W (rs.grew hW)
  obtain ⟨W0, hW0⟩ : ∃ W0, W0 = w.alloc (.cells (nmC x X kx B j C c D d E e) 39) := ⟨_, rfl⟩
  have HG0 : Hid (Grew w W0) := Lib.hid (by rw [hW0]; exact (Grew.refl w).alloc _)
  have HX0 : Hid (Blok W0 w.heap.size 39 (nmC x X kx B j C c D d E e)) := Lib.hid (by rw [hW0]; exact Blok.new _ _ _ _ rfl)
  clear rs
  unfold nmC at hW0 ⊢
  obtain ⟨fin, hfin⟩ : ∃ fin, decide (rightP x.scan.length l) = fin := ⟨_, rfl⟩
  rw [hfin]
  have HF := Lib.hid hfin
  clear hfin
  unfold Gives
  go_enter Tryz.func20, Tryz.ntmps20
  go_upto_region 1 with fail
  rw [← hW0]
  clear hW0
  go_wp2
  go_loopw [5] (fun i wr => RrAt W0 x.scan.length l i wr) (fun i _ => x.scan.length - (intOf i).toNat)
  case atStart => exact ⟨0, Nat.zero_le _, rfl, Grew.refl _, fun t ht => absurd ht (Nat.not_lt_zero _)⟩
  case round =>
    obtain ⟨q, hq, rfl, hg, hall⟩ := hrel
    have HG := Lib.hid hg
    have HA := Lib.hid hall
    clear hg hall
    obtain ⟨x0, m0, m1, m2, m3, m4, m5⟩ := nm6 (HX0.out.grew HG.out)
    generalize hNl : x.scan.length = n at *
    clear hNl
    by_cases h : q < n
    · by_cases hq2 : (q : Int) ∈ l
      · have HHq : Hid (∀ W, Grew w W → Gives Tryz.prog 56 #[.slice S l.length ks, .int .i64 q] W (.bool true)) := Lib.hid fun W hW => by have := HH.out q W hW; rwa [decide_eq_true hq2] at this
        have HA2 : Hid (∀ t : Nat, t < q + 1 → (t : Int) ∈ l) := Lib.hid fun t ht => by
          rcases Nat.lt_or_ge t q with h1 | h1
          · exact HA.out t h1
          · obtain rfl : t = q := by omega
            exact hq2
        clear hq2
        go_wp2_with (go_at_call 56; (with_reducible refine (HHq.out _ (HG0.out.trans HG.out)).grows.mono ?_); rintro en w8 ⟨rfl, hg8⟩; have HG8 := Lib.hid (HG.out.trans hg8); clear hg8)
        exact ⟨⟨q + 1, by omega, by go_num, HG8.out, HA2.out⟩, by simp only [intOf]; omega⟩
      · have HHq : Hid (∀ W, Grew w W → Gives Tryz.prog 56 #[.slice S l.length ks, .int .i64 q] W (.bool false)) := Lib.hid fun W hW => by have := HH.out q W hW; rwa [decide_eq_false hq2] at this
        have hf : fin = false := by rw [← HF.out]; exact decide_eq_false fun hr => hq2 (hr.1 q h)
        subst hf
        clear hq2
        go_wp2_with (go_at_call 56; (with_reducible refine (HHq.out _ (HG0.out.trans HG.out)).grows.mono ?_); rintro en w8 ⟨rfl, hg8⟩; have HG8 := Lib.hid (HG.out.trans hg8); clear hg8)
        go_ret
        exact ⟨rfl, HG0.out.trans HG8.out⟩
    · obtain rfl : q = n := by omega
      by_cases hln : l.length = q
      · have hf : fin = true := by rw [← HF.out]; exact decide_eq_true ⟨HA.out, hln⟩
        have e1 : ((l.length : Int) == (q : Int)) = true := by rw [hln]; simp
        subst hf
        clear hln
        go_wp2
        go_ret
        exact ⟨rfl, HG0.out.trans HG.out⟩
      · have hf : fin = false := by rw [← HF.out]; exact decide_eq_false fun hr => hln hr.2
        have e1 : ((l.length : Int) == (q : Int)) = false := by simp; omega
        subst hf
        go_wp2
        go_ret
        exact ⟨rfl, HG0.out.trans HG.out⟩
end Go.Proofs.YtbglmcebkpkccaaGreatDoor
/- Layer 30: what an order costs, by program and document. Condition: no more than a thousand tables. -/
namespace Go.Proofs.YtbglmcebkpkccaaGreatDoor
open Go.RowKit
attribute [local go_sem] more_cell more_frozen more_more more_setCell more_of_drew more_of_drewN lt_more le_more past_cell past_cell2 past_frozen past_frozen2 past_setCell past_setCell2 mid_cell mid_frozen mid_setCell
attribute [local go_sem] fldC0 fldC1 fldS0
attribute [local go_sem ↓] Go.wp_at_zero Go.wp_at_succ
/-- All that a walk of the costs asks of the two guesses, by the program. -/
structure KCost (w : World) (sc : Int → Int) (sz : List Int → Int) (agg sts : Value) : Prop where
  scan : ∀ (t : Int) (W : World), Grew w W → Gives Tryz.prog 11 #[agg, sts, .int .i64 t] W (.int .i64 (sc t))
  size : ∀ (l : List Int) (S : Option Addr) (k : Nat) (W : World), l.length ≤ 1000 → Grew w W → Row W S (iV l) → Gives Tryz.prog 16 #[agg, sts, .slice S l.length k] W (.int .i64 (sz l))
  hs : ∀ t, sI (sc t)
  hz : ∀ l, sI (sz l)
theorem KCost.grew {w w' : World} {sc : Int → Int} {sz : List Int → Int} {agg sts : Value} (h : KCost w sc sz agg sts) (g : Grew w w') : KCost w' sc sz agg sts :=
  ⟨fun t W hW => h.scan t W (g.trans hW), fun l S k W hl hW hr => h.size l S k W hl (g.trans hW) hr, h.hs, h.hz⟩
/-- The same, by the document. -/
structure RCost (w : World) (sc : Int → Int) (sz : List Int → Int) (agg sts : Value) : Prop where
  scan : ∀ (t : Int) (W : World), Grew w W → Gives Tryz.prog 12 #[agg, sts, .int .i64 t] W (.int .i64 (sc t))
  size : ∀ (l : List Int) (S : Option Addr) (k : Nat) (W : World), l.length ≤ 1000 → Grew w W → Row W S (iV l) → Gives Tryz.prog 17 #[agg, sts, .slice S l.length k] W (.int .i64 (sz l))
  hs : ∀ t, sI (sc t)
  hz : ∀ l, sI (sz l)
theorem RCost.grew {w w' : World} {sc : Int → Int} {sz : List Int → Int} {agg sts : Value} (h : RCost w sc sz agg sts) (g : Grew w w') : RCost w' sc sz agg sts :=
  ⟨fun t W hW => h.scan t W (g.trans hW), fun l S k W hl hW hr => h.size l S k W hl (g.trans hW) hr, h.hs, h.hz⟩
theorem add3_any (a b c : Int) (A : Option Addr) (k : Nat) (w : World) (ra : Row w A [.int .i64 a, .int .i64 b, .int .i64 c]) : Calls Tryz.prog 62 #[.slice A 3 k] w fun e w' => e = .returned (.int .i64 (stepA a b c)) ∧ w' = w :=
  add_any [a, b, c] A k (by simp) w ra
theorem row_take {w : World} {A : Option Addr} {l : List Int} (h : Row w A (iV l)) (n : Nat) : Row w A (iV (l.take n)) := by
  rcases h with h | ⟨b, o, hA, hb, hc⟩
  · have h0 : l = [] := by simpa [iV] using h
    subst h0
    exact Or.inl (by simp [iV])
  · refine Or.inr ⟨b, o, hA, hb, fun j u hu => hc j u ?_⟩
    simp only [iV, List.map_take] at hu ⊢
    rw [List.getElem?_take] at hu
    split at hu
    · exact hu
    · cases hu
def CoAt (w : World) (sc : Int → Int) (sz : List Int → Int) (l : List Int) (v i : Value) (wr : World) : Prop := ∃ j : Nat, 1 ≤ j ∧ (j ≤ l.length ∨ j = 1) ∧ i = .int .i64 j ∧ v = .int .i64 (costTo sc sz l j) ∧ Grew w wr
theorem costTo_end (s : Int → Int) (z : List Int → Int) (l : List Int) (j : Nat) (h1 : 1 ≤ j) (h2 : l.length ≤ j) (h3 : j ≤ l.length ∨ j = 1) : costTo s z l j = costS s z l := by
  unfold costS
  rcases h3 with h3 | h3
  · rw [show j = l.length by omega]
  · subst h3
    match l, h2 with
    | [], _ => rfl
    | [a], _ => rfl
set_option maxHeartbeats 4000000 in
set_option maxRecDepth 100000 in
theorem ordCost_any (l : List Int) (hl : l.length ≤ 1000) (S : Option Addr) (ks : Nat) (hk : l.length ≤ ks) (sc : Int → Int) (sz : List Int → Int) (sts : Value) (x : Nm) (X : Option Addr) (kx : Nat) (B : Option Addr) (j : Nat) (C : Option Addr) (c : Nat) (D : Option Addr) (d : Nat) (E : Option Addr) (e : Nat) (w : World) (rs : Row w S (iV l))
    (hK : KCost w sc sz (.agg (nmC x X kx B j C c D d E e)) sts) :
    Gives Tryz.prog 21 #[.agg (nmC x X kx B j C c D d E e), sts, .slice S l.length ks] w (.int .i64 (costS sc sz l)) := by
  obtain ⟨W0, hW0⟩ : ∃ W0, W0 = w.alloc (.cells (nmC x X kx B j C c D d E e) 39) := ⟨_, rfl⟩
  have HG0 : Hid (Grew w W0) := Lib.hid (by rw [hW0]; exact (Grew.refl w).alloc _)
  have HX0 : Hid (Blok W0 w.heap.size 39 (nmC x X kx B j C c D d E e)) := Lib.hid (by rw [hW0]; exact Blok.new _ _ _ _ rfl)
  have HK := Lib.hid (hK.grew HG0.out)
  have HRs := Lib.hid (rs.grew HG0.out)
  clear hK rs
  unfold nmC at hW0 HK ⊢
  unfold Gives
  go_enter Tryz.func21, Tryz.ntmps21
  go_upto_region 1 with fail
  rw [← hW0]
  clear hW0
  go_wp2
  go_loopw [7, 8] (fun v i wr => CoAt W0 sc sz l v i wr) (fun _ i _ => l.length - (intOf i).toNat)
  case atStart => exact ⟨1, Nat.le_refl _, Or.inr rfl, rfl, rfl, Grew.refl _⟩
  case round =>
    obtain ⟨q, h1, h2, rfl, rfl, hg⟩ := hrel
    have HG := Lib.hid hg
    clear hg
    by_cases h : q < l.length
    · obtain ⟨b, o, rfl, hb, hc⟩ := rowI_at (HRs.out.grew HG.out) h
      obtain ⟨q1, hq1⟩ : ∃ q1 : Nat, q1 = q + 1 := ⟨_, rfl⟩
      have hw : IntKind.i64.wrap ((q : Int) + 1) = (q1 : Int) := by rw [IntWalk.i64_in _ (by omega)]; omega
      have hqk : (q1 : Int) ≤ (ks : Int) := by omega
      have hq0 : (0 : Int) ≤ (q1 : Int) := by omega
      have HSc : Hid (∀ W, Grew wr W → Gives Tryz.prog 11 #[.agg #[.int .i64 x.core, .slice X x.scan.length kx, .slice B x.edges.length j, .slice C x.rest.length c, .slice D x.late.length d, .slice E x.wh.length e], sts, .int .i64 l[q]] W (.int .i64 (sc l[q]))) := Lib.hid fun W hW => HK.out.scan l[q] W (HG.out.trans hW)
      have HSz : Hid (∀ W k, Grew wr W → Gives Tryz.prog 16 #[.agg #[.int .i64 x.core, .slice X x.scan.length kx, .slice B x.edges.length j, .slice C x.rest.length c, .slice D x.late.length d, .slice E x.wh.length e], sts, .slice (some ⟨b, o, none⟩) q1 k] W (.int .i64 (sz (l.take (q + 1))))) := Lib.hid fun W k hW => by
        have := HK.out.size (l.take (q + 1)) (some ⟨b, o, none⟩) k W (by rw [List.length_take]; omega) (HG.out.trans hW) (row_take ((HRs.out.grew HG.out).grew hW) _)
        rw [show (l.take (q + 1)).length = q1 by rw [List.length_take]; omega] at this
        exact this
      have HCt : Hid (costTo sc sz l (q + 1) = stepA (costTo sc sz l q) (sc l[q]) (sz (l.take (q + 1)))) := Lib.hid (by rw [costTo, if_neg (by omega), List.getD_eq_getElem?_getD, List.getElem?_eq_getElem h]; rfl)
      have HCell : Hid (∀ W, Grew wr W → b < W.heap.size ∧ W.cell? ⟨b, o + q, none⟩ = some (.int .i64 l[q])) := Lib.hid fun W hW => cell_grewK hW hb hc
      clear hb hc
      generalize sc l[q] = sq at *
      generalize sz (l.take (q + 1)) = zq at *
      generalize l[q] = tq at *
      generalize costTo sc sz l q = cq at *
      have HQ1 := Lib.hid hq1
      clear hq1
      go_upto_region 5 with fail
      have hS0 : Grew wr wr.drew := (Grew.refl wr).drew
      refine wp_region_S (fun W => Grew wr W) (by kernel_rfl) ?_
      refine held_take 0 (v := ?_) rfl (by kernel_rfl) (by kernel_rfl) (by kernel_rfl) (fun _ _ _ h => h) (by rfl) ?_ hS0 ?_; rotate_left; · (intro W hW; obtain ⟨x0, m0, m1, m2, m3, m4, m5⟩ := nm6 (HX0.out.grew (HG.out.trans hW)); obtain ⟨hb, hc⟩ := HCell.out W hW; go_simp; with_reducible rfl)
      refine held_take 1 (v := ?_) rfl (by kernel_rfl) (by kernel_rfl) (by kernel_rfl) (fun _ _ _ h => h) (by rfl) ?_ hS0 ?_; rotate_left; · (intro W hW; obtain ⟨x0, m0, m1, m2, m3, m4, m5⟩ := nm6 (HX0.out.grew (HG.out.trans hW)); obtain ⟨hb, hc⟩ := HCell.out W hW; go_simp; with_reducible rfl)
      refine held_take 2 (v := ?_) rfl (by kernel_rfl) (by kernel_rfl) (by kernel_rfl) (fun _ _ _ h => h) (by rfl) ?_ hS0 ?_; rotate_left; · (intro W hW; obtain ⟨x0, m0, m1, m2, m3, m4, m5⟩ := nm6 (HX0.out.grew (HG.out.trans hW)); obtain ⟨hb, hc⟩ := HCell.out W hW; go_simp; with_reducible rfl)
      refine held_take 3 (v := ?_) rfl (by kernel_rfl) (by kernel_rfl) (by kernel_rfl) (fun _ _ _ h => h) (by rfl) ?_ hS0 ?_; rotate_left; · (intro W hW; obtain ⟨x0, m0, m1, m2, m3, m4, m5⟩ := nm6 (HX0.out.grew (HG.out.trans hW)); obtain ⟨hb, hc⟩ := HCell.out W hW; go_simp; with_reducible rfl)
      refine held_take 4 (v := ?_) rfl (by kernel_rfl) (by kernel_rfl) (by kernel_rfl) (fun _ _ _ h => h) (by rfl) ?_ hS0 ?_; rotate_left; · (intro W hW; obtain ⟨x0, m0, m1, m2, m3, m4, m5⟩ := nm6 (HX0.out.grew (HG.out.trans hW)); obtain ⟨hb, hc⟩ := HCell.out W hW; go_simp; with_reducible rfl)
      refine held_take 5 (v := ?_) rfl (by kernel_rfl) (by kernel_rfl) (by kernel_rfl) (fun _ _ _ h => h) (by rfl) ?_ hS0 ?_; rotate_left; · (intro W hW; obtain ⟨x0, m0, m1, m2, m3, m4, m5⟩ := nm6 (HX0.out.grew (HG.out.trans hW)); obtain ⟨hb, hc⟩ := HCell.out W hW; go_simp; with_reducible rfl)
      refine held_take 6 (v := ?_) rfl (by kernel_rfl) (by kernel_rfl) (by kernel_rfl) (fun _ _ _ h => h) (by rfl) ?_ hS0 ?_; rotate_left; · (intro W hW; obtain ⟨x0, m0, m1, m2, m3, m4, m5⟩ := nm6 (HX0.out.grew (HG.out.trans hW)); obtain ⟨hb, hc⟩ := HCell.out W hW; go_simp; with_reducible rfl)
      refine held_norm (a' := ?_) ?_ ?_; rotate_left; · (go_simp; with_reducible rfl)
      refine held_take 8 (v := ?_) rfl (by kernel_rfl) (by kernel_rfl) (by kernel_rfl) (fun _ _ _ h => h) (by rfl) ?_ hS0 ?_; rotate_left; · (intro W hW; obtain ⟨x0, m0, m1, m2, m3, m4, m5⟩ := nm6 (HX0.out.grew (HG.out.trans hW)); go_simp; with_reducible rfl)
      refine held_take 9 (v := ?_) rfl (by kernel_rfl) (by kernel_rfl) (by kernel_rfl) (fun _ _ _ h => h) (by rfl) ?_ hS0 ?_; rotate_left; · (intro W hW; obtain ⟨x0, m0, m1, m2, m3, m4, m5⟩ := nm6 (HX0.out.grew (HG.out.trans hW)); go_simp; with_reducible rfl)
      refine held_take 10 (v := ?_) rfl (by kernel_rfl) (by kernel_rfl) (by kernel_rfl) (fun _ _ _ h => h) (by rfl) ?_ hS0 ?_; rotate_left; · (intro W hW; obtain ⟨x0, m0, m1, m2, m3, m4, m5⟩ := nm6 (HX0.out.grew (HG.out.trans hW)); go_simp; with_reducible rfl)
      refine held_take 11 (v := ?_) rfl (by kernel_rfl) (by kernel_rfl) (by kernel_rfl) (fun _ _ _ h => h) (by rfl) ?_ hS0 ?_; rotate_left; · (intro W hW; obtain ⟨x0, m0, m1, m2, m3, m4, m5⟩ := nm6 (HX0.out.grew (HG.out.trans hW)); go_simp; with_reducible rfl)
      refine held_take 12 (v := ?_) rfl (by kernel_rfl) (by kernel_rfl) (by kernel_rfl) (fun _ _ _ h => h) (by rfl) ?_ hS0 ?_; rotate_left; · (intro W hW; obtain ⟨x0, m0, m1, m2, m3, m4, m5⟩ := nm6 (HX0.out.grew (HG.out.trans hW)); go_simp; with_reducible rfl)
      refine held_take 13 (v := ?_) rfl (by kernel_rfl) (by kernel_rfl) (by kernel_rfl) (fun _ _ _ h => h) (by rfl) ?_ hS0 ?_; rotate_left; · (intro W hW; obtain ⟨x0, m0, m1, m2, m3, m4, m5⟩ := nm6 (HX0.out.grew (HG.out.trans hW)); go_simp; with_reducible rfl)
      refine held_norm (a' := ?_) ?_ ?_; rotate_left; · (go_simp; with_reducible rfl)
      refine held_call 7 (by kernel_rfl) rfl (by rfl) (fun K hK => ?_)
      go_simp
      go_wp2_with ((go_at_call 11; (with_reducible refine (HSc.out _ hS0).grows.mono ?_); rintro en wn ⟨rfl, hgn⟩; have hS1 := hS0.trans hgn))
      refine hK.out _ _ hS1 ?_
      clear hK K
      refine held_call 14 (by kernel_rfl) rfl (by rfl) (fun K hK => ?_)
      go_simp
      go_wp2_with ((go_at_call 16; (with_reducible refine (HSz.out _ _ hS1).grows.mono ?_); rintro en wn2 ⟨rfl, hgn2⟩; have hS2 := hS1.trans hgn2))
      refine hK.out _ _ hS2 ?_
      clear hK K
      refine held_call 15 (by kernel_rfl) rfl (by rfl) (fun K hK => ?_)
      go_simp
      go_wp2_with fail
      refine hK.out _ _ (hS2.alloc _) ?_
      clear hK K
      refine held_call 16 (by kernel_rfl) rfl (by rfl) (fun K hK => ?_)
      go_simp
      go_wp2_with ((go_at_call 62; (with_reducible refine (add3_any _ _ _ _ _ _ (row_new _ _ _ _ rfl)).mono ?_); rintro en wz ⟨rfl, hwz⟩; subst hwz))
      refine hK.out _ _ (hS2.alloc _) ?_
      clear hK K
      refine held_take 17 (v := ?_) rfl (by kernel_rfl) (by kernel_rfl) (by kernel_rfl) (fun _ _ _ h => h) (by rfl) ?_ (hS2.alloc _) ?_; rotate_left; · (intro W hW; go_simp; with_reducible rfl)
      refine held_norm (a' := ?_) ?_ ?_; rotate_left; · (go_simp; with_reducible rfl)
      refine held_done (by kernel_rfl) ?_
      have HG9 := Lib.hid (HG.out.trans (hS2.alloc (.cells #[.int .i64 cq, .int .i64 sq, .int .i64 zq] 3)))
      clear hS0 hS1 hS2 hgn hgn2
      go_wp2
      have hq1 := HQ1.out
      exact ⟨⟨q1, by omega, Or.inl (by omega), rfl, by rw [hq1, HCt.out], HG9.out⟩, by simp only [intOf]; omega⟩
    · rw [costTo_end sc sz l q h1 (by omega) h2]
      go_wp2
      go_ret
      exact ⟨rfl, HG0.out.trans HG.out⟩
end Go.Proofs.YtbglmcebkpkccaaGreatDoor
/- Layer 30: what an order costs, by the document. Condition: no more than a thousand tables. -/
namespace Go.Proofs.YtbglmcebkpkccaaGreatDoor
open Go.RowKit
attribute [local go_sem] more_cell more_frozen more_more more_setCell more_of_drew more_of_drewN lt_more le_more past_cell past_cell2 past_frozen past_frozen2 past_setCell past_setCell2 mid_cell mid_frozen mid_setCell
attribute [local go_sem] fldC0 fldC1 fldS0
attribute [local go_sem ↓] Go.wp_at_zero Go.wp_at_succ
end Go.Proofs.YtbglmcebkpkccaaGreatDoor
/- Layer 30: sets of tables as bits, and the order of a set from the last one back, by the program. Condition: no more than six tables. -/
namespace Go.Proofs.YtbglmcebkpkccaaGreatDoor
open Go.RowKit
attribute [local go_sem] more_cell more_frozen more_more more_setCell more_of_drew more_of_drewN lt_more le_more past_cell past_cell2 past_frozen past_frozen2 past_setCell past_setCell2 mid_cell mid_frozen mid_setCell
attribute [local go_sem] fldC0 fldC1 fldS0
attribute [local go_sem ↓] Go.wp_at_zero Go.wp_at_succ
theorem reverse_own (l : List Int) (hz : l.length ≤ 1000000) (A : Option Addr) (c base : Nat) (w : World) (ho : w.ownsRow base 3 1 (.slice A l.length c) l.length (iV l)) :
    Calls Tryz.prog 101 #[.slice A l.length c] w fun e w' => e = .returned (.tuple #[]) ∧ w'.ownsRow base 3 1 (.slice A l.length c) l.length (iV l.reverse) ∧ w.grownBy w' (Value.slice A l.length c).ownBlock := by
  have hl : l.reverse.length = l.length := List.length_reverse
  by_cases h0 : l.length = 0
  · have h00 : l = [] := List.eq_nil_of_length_eq_zero h0
    subst h00
    refine (Tryz.slices_Reverse_int_empty A c w).mono ?_
    rintro e w' ⟨rfl, rfl⟩
    exact ⟨rfl, ho, World.grownBy.refl _ _⟩
  rcases ho.2 with ⟨h1, h2⟩ | ⟨g, cap, cur, h1, hbase, hgb, r1, r2, r3, r4⟩
  · omega
  · injection h1 with h1 _ h1''
    subst h1 h1''
    have hH : Go.Sort.Holds (Value.int .i64) w g 0 l.toArray := holds_of_blockI hgb (by simpa [iV] using r4)
    refine (Tryz.slices_Reverse_int g 0 c l w hH (by omega)).mono ?_
    rintro e w' ⟨rfl, n, rfl⟩
    have a1 := ownsRow_sortedI (n := n) (os := #[]) (ts := l.reverse) hl hbase hgb r1 r2 r3
    have a2 := grownBy_sortedI (w := w) (g := g) (n := n) (os := #[]) l.reverse.toArray
    rw [Sort.grow_empty] at a1 a2
    exact ⟨rfl, a1, a2⟩
set_option maxRecDepth 100000 in
theorem bit_and : ∀ set < 64, ∀ t < 6, bits .and .i64 (((set : Nat) : Int) / 2 ^ (t : Nat)) 1 = if set.testBit t then 1 else 0 := by decide +kernel
set_option maxRecDepth 100000 in
theorem bit_andNot : ∀ set < 64, ∀ t < 6, bits .andNot .i64 ((set : Nat) : Int) (2 ^ (t : Nat)) = (clearB set t : Int) := by decide +kernel
set_option maxRecDepth 100000 in
theorem bit_shl : ∀ t < 7, IntKind.i64.wrap ((2 : Int) ^ (t : Nat)) = 2 ^ t := by decide +kernel
def MeAt (w : World) (c set : Nat) (v i : Value) (wr : World) : Prop := ∃ (j m : Nat) (A : Option Addr) (k : Nat), j ≤ c ∧ m = (membB j set).length ∧ i = .int .i64 j ∧ v = .slice A m k ∧ Grew w wr ∧ wr.ownsRow w.heap.size 3 1 (.slice A m k) m (iV (membB j set))
set_option maxHeartbeats 2000000 in
/-- The tables of a set of bits. -/
theorem members_any (c set : Nat) (hc : c ≤ 6) (hs : set < 64) (w : World) : Calls Tryz.prog 64 #[.int .i64 set, .int .i64 c] w (OwnI w (membB c set)) := by
  go_enter Tryz.func64, Tryz.ntmps64
  go_wp2
  go_loopw [5, 8] (fun v i wr => MeAt w c set v i wr) (fun _ i _ => c - (intOf i).toNat)
  case atStart => exact ⟨0, 0, none, 0, Nat.zero_le _, rfl, rfl, rfl, Grew.refl _, own_none _ _ _ _⟩
  case round =>
    obtain ⟨j, m, A, k, hj, hm, rfl, rfl, hg, ho⟩ := hrel
    have HG := Lib.hid hg
    have HO := Lib.hid ho
    have HM := Lib.hid hm
    have hmb : m ≤ 6 := by rw [hm]; exact Nat.le_trans (membB_len _ _) (by omega)
    clear hg ho hm
    by_cases h : j < c
    · have hb := bit_and set hs j (by omega)
      have HT := Lib.hid (membB_succ j set)
      by_cases ht : set.testBit j = true
      · rw [if_pos ht] at hb
        have HT1 : Hid (membB (j + 1) set = membB j set ++ [(j : Int)]) := Lib.hid (by rw [HT.out, if_pos ht])
        have HN : Hid (iV (membB (j + 1) set) = iV (membB j set) ++ [.int .i64 j]) := Lib.hid (by rw [HT1.out]; simp [iV])
        have HM1 : Hid (m + 1 = (membB (j + 1) set).length) := Lib.hid (by rw [HT1.out, List.length_append, ← HM.out]; rfl)
        clear ht HT HT1
        go_wp2_with (at_builtin; refine wpList_app rfl _ _ 31 3 rfl w (.int .i64 0) 8 Tryz.underlying31 infoI rfl (by decide) _ m (iV (membB j set)) rfl (own_alloc HO.out _) _ 1 1 [.int .i64 j] rfl rfl (row_one _ _ _ _ rfl) (by simp [Value.oneCell']) (by omega) (HG.out.alloc _) ?_; intro A' c' w' ho' _ hg' _ _; have HO2 := Lib.hid ho'; have HG2 := Lib.hid hg'; clear ho' hg')
        exact ⟨⟨j + 1, m + 1, A', c', by omega, HM1.out, by go_num, rfl, HG2.out, by rw [HN.out]; exact HO2.out⟩, by simp only [intOf]; omega⟩
      · rw [if_neg ht] at hb
        have HT1 : Hid (membB (j + 1) set = membB j set) := Lib.hid (by rw [HT.out, if_neg ht, List.append_nil])
        clear ht HT
        go_wp2
        exact ⟨⟨j + 1, m, A, k, by omega, by rw [HT1.out]; exact HM.out, by go_num, rfl, HG.out, by rw [HT1.out]; exact HO.out⟩, by simp only [intOf]; omega⟩
    · obtain rfl : j = c := by omega
      go_wp2
      go_ret
      exact ⟨A, k, by rw [← HM.out]; rfl, HG.out, by rw [← HM.out]; exact HO.out⟩
/-- What is found of each set of bits: the table that is last, and what it costs. -/
def lastB (s : Int → Int) (z : List Int → Int) (c set : Nat) : Int := (bstB s z (membB c set)).1.getLastD 0
def costB (s : Int → Int) (z : List Int → Int) (c set : Nat) : Int := (bstB s z (membB c set)).2
/-- Two cells a set, in a block. -/
def FoAt (w : World) (b n : Nat) (f g : Nat → Int) : Prop := b < w.heap.size ∧ ∀ k < n, w.cell? ⟨b, k * 2, none⟩ = some (.int .i64 (f k)) ∧ w.cell? ⟨b, k * 2 + 1, none⟩ = some (.int .i64 (g k))
theorem FoAt.grew {w w' : World} {b n : Nat} {f g : Nat → Int} (h : FoAt w b n f g) (hg : Grew w w') : FoAt w' b n f g :=
  ⟨Nat.lt_of_lt_of_le h.1 hg.size, fun k hk => ⟨(cell_grewK hg h.1 (h.2 k hk).1).2, (cell_grewK hg h.1 (h.2 k hk).2).2⟩⟩
theorem lastB_spec (s : Int → Int) (z : List Int → Int) {c set : Nat} (hc : c ≤ 6) (hs : set < 2 ^ c) (h0 : 0 < set) : ∃ t : Nat, lastB s z c set = t ∧ t < c ∧ set.testBit t = true ∧ (bstB s z (membB c set)).1 = (bstB s z (membB c (clearB set t))).1 ++ [(t : Int)] := by
  have hne : membB c set ≠ [] := fun e => by have := membB_nil hs e; omega
  have h64 : set < 64 := Nat.lt_of_lt_of_le hs (Nat.pow_le_pow_right (by decide) hc : 2 ^ c ≤ 2 ^ 6)
  obtain ⟨t, ht, _, e⟩ := bstB_last s z hne
  obtain ⟨t', rfl, h1, h2⟩ := (membB_mem c set t).1 ht
  refine ⟨t', ?_, h1, h2, ?_⟩
  · unfold lastB
    rw [e]
    simp
  · rw [e, membB_clear hc h64 (by omega)]
def UnAt (w : World) (s : Int → Int) (z : List Int → Int) (c full : Nat) (set v : Value) (wr : World) : Prop := ∃ (g : Nat) (l : List Int) (A : Option Addr) (k : Nat), g < 2 ^ c ∧ set = .int .i64 g ∧ v = .slice A l.length k ∧ l.length ≤ 6 ∧ (bstB s z (membB c full)).1 = (bstB s z (membB c g)).1 ++ l.reverse ∧ Grew w wr ∧ wr.ownsRow w.heap.size 3 1 (.slice A l.length k) l.length (iV l)
set_option maxHeartbeats 2000000 in
/-- The order of a set, from the last one back. -/
theorem unrolled_any (s : Int → Int) (z : List Int → Int) (c full n ks : Nat) (hc : c ≤ 6) (hs : full < 2 ^ c) (hn : 2 ^ c ≤ n) (b : Nat) (w : World) (hf : FoAt w b (2 ^ c) (lastB s z c) (costB s z c)) :
    Calls Tryz.prog 65 #[.slice (some ⟨b, 0, none⟩) n ks, .int .i64 full] w (OwnI w (bstB s z (membB c full)).1) := by
  have HF := Lib.hid hf
  have h26 : 2 ^ c ≤ 64 := (Nat.pow_le_pow_right (by decide) hc : 2 ^ c ≤ 2 ^ 6)
  clear hf
  obtain ⟨fin, hfin⟩ : ∃ fin, (bstB s z (membB c full)).1 = fin := ⟨_, rfl⟩
  have HPl : Hid (∀ g, g < 2 ^ c → (bstB s z (membB c g)).1.length ≤ 6) := Lib.hid fun g _ => by
    rw [(bstB_perm s z _ _ rfl (membB_nodup c g)).2.1]
    exact Nat.le_trans (membB_len _ _) hc
  go_enter Tryz.func65, Tryz.ntmps65
  go_wp2
  go_loopw [1, 5] (fun set v wr => UnAt w s z c full set v wr) (fun set _ _ => (intOf set).toNat)
  case atStart => exact ⟨full, [], none, 0, hs, rfl, rfl, by simp, by simp, Grew.refl _, own_none _ _ _ _⟩
  case round =>
    obtain ⟨g, l, A, k, hg0, rfl, rfl, hl, he, hg, ho⟩ := hrel
    have HG := Lib.hid hg
    have HO := Lib.hid ho
    have HE := Lib.hid he
    clear hg ho he
    by_cases h : 0 < g
    · obtain ⟨t, e1, ht, hbit, e2⟩ := lastB_spec s z hc hg0 h
      obtain ⟨hb, hcell⟩ := HF.out.grew HG.out
      have hc0 := (hcell g hg0).1
      rw [e1] at hc0
      have hlt := clear_lt hbit
      have hw1 := bit_shl t (by omega)
      have hw2 := bit_andNot g (by omega) t (by omega)
      have HE2 : Hid ((bstB s z (membB c full)).1 = (bstB s z (membB c (clearB g t))).1 ++ (l ++ [(t : Int)]).reverse) := Lib.hid (by rw [HE.out, e2, List.reverse_append, List.append_assoc]; rfl)
      have hl5 : l.length + 1 ≤ 6 := by
        have h1 := HPl.out full hs
        rw [HE2.out, List.length_append, List.length_reverse, List.length_append] at h1
        simp only [List.length_singleton] at h1
        omega
      have HN : Hid (iV (l ++ [(t : Int)]) = iV l ++ [.int .i64 t]) := Lib.hid (by simp [iV])
      clear hcell e1 e2 hbit
      generalize clearB g t = g' at *
      go_wp2_with (at_builtin; refine wpList_app rfl _ _ 31 3 rfl w (.int .i64 0) 8 Tryz.underlying31 infoI rfl (by decide) _ l.length (iV l) rfl (own_alloc HO.out _) _ 1 1 [.int .i64 t] rfl rfl (row_one _ _ _ _ rfl) (by simp [Value.oneCell']) (by omega) (HG.out.alloc _) ?_; intro A' c' w' ho' _ hg' _ _; have HO2 := Lib.hid ho'; have HG2 := Lib.hid hg'; clear ho' hg')
      exact ⟨⟨g', l ++ [(t : Int)], A', c', by omega, rfl, by rw [List.length_append]; rfl, by rw [List.length_append]; simp; omega, HE2.out, HG2.out, by rw [HN.out, List.length_append]; exact HO2.out⟩, by simp only [intOf]; omega⟩
    · obtain rfl : g = 0 := by omega
      have HE2 : Hid ((bstB s z (membB c full)).1 = l.reverse) := Lib.hid (by rw [HE.out, membB_zero]; rfl)
      have HRv : Hid (∀ A c W, W.ownsRow w.heap.size 3 1 (.slice A l.length c) l.length (iV l) → Calls Tryz.prog 101 #[.slice A l.length c] W fun e w' => e = .returned (.tuple #[]) ∧ w'.ownsRow w.heap.size 3 1 (.slice A l.length c) l.length (iV l.reverse) ∧ W.grownBy w' (Value.slice A l.length c).ownBlock) := Lib.hid fun A c W hW => reverse_own l (by omega) A c _ W hW
      go_wp2_with (go_at_call 101; (with_reducible refine (HRv.out _ _ _ HO.out).mono ?_); rintro en w8 ⟨rfl, ho8, hg8⟩; have HO8 := Lib.hid ho8; have HG8 := Lib.hid (HG.out.grown hg8 (own_base HO.out)); clear ho8 hg8)
      go_ret
      rw [HE2.out]
      exact ⟨A, k, by rw [List.length_reverse]; rfl, HG8.out, by rw [List.length_reverse]; exact HO8.out⟩
end Go.Proofs.YtbglmcebkpkccaaGreatDoor
/- Layer 30: is a list an order of all tables, by the program. Condition: no more than a thousand tables, a million numbers. -/
namespace Go.Proofs.YtbglmcebkpkccaaGreatDoor
open Go.RowKit
attribute [local go_sem] more_cell more_frozen more_more more_setCell more_of_drew more_of_drewN lt_more le_more past_cell past_cell2 past_frozen past_frozen2 past_setCell past_setCell2 mid_cell mid_frozen mid_setCell
attribute [local go_sem] fldC0 fldC1 fldS0
attribute [local go_sem ↓] Go.wp_at_zero Go.wp_at_succ
end Go.Proofs.YtbglmcebkpkccaaGreatDoor
/- Layer 30: what is found of each set of tables, two cells a set. No condition but the sets' count. -/
namespace Go.Proofs.YtbglmcebkpkccaaGreatDoor
open Go.RowKit
attribute [local go_sem] more_cell more_frozen more_more more_setCell more_of_drew more_of_drewN lt_more le_more past_cell past_cell2 past_frozen past_frozen2 past_setCell past_setCell2 mid_cell mid_frozen mid_setCell
attribute [local go_sem] fldC0 fldC1 fldS0
attribute [local go_sem ↓] Go.wp_at_zero Go.wp_at_succ
theorem infoBe : (Tryz.prog.info? 100).map (fun i => (i.zero, i.size, i.bytes)) = some (some (.agg #[.int .i64 0, .int .i64 0]), 2, 16) := by kernel_rfl
section
variable {P : Program}
theorem wpList_make_rowsO (w : World) {ops : Array Oper} {rest : List Oper} {o : Oper} {a : Act} {Q : Exit → Act → World → Prop}
    (hg : o.guard = none) (l c : Operand) (t : TypeId) (hop : o.op = Op.makeSlice t l c)
    (e : TypeId) (z : Value) (zs : Array Value) (size bytes : Nat) (ht : P.underlying t = some (.slice e)) (hinfo : (P.info? e).map (fun i => (i.zero, i.size, i.bytes)) = some (some z, size, bytes)) (hzs : z.cells = zs)
    (kl kc : IntKind) (n : Nat) (hl : a.eval l = .int kl (n : Int)) (hc : a.eval c = .int kc (n : Int)) (hbytes : bytes * n ≤ 281474976710656) (h63 : n ≤ 9223372036854775807)
    (hK : wpList P ops Q rest (a.put o.dst (.slice (some ⟨w.heap.size, 0, none⟩) n n)) (w.alloc (.cells (madeCells zs (n * size)) e))) :
    wpList P ops Q (o :: rest) a w := by
  refine wpList_plain hg fun K hK' => ?_
  obtain ⟨i, hi, hzz⟩ := Option.map_eq_some_iff.1 hinfo
  simp only [Prod.mk.injEq] at hzz
  obtain ⟨hz, hs, hb⟩ := hzz
  have hb' : (i.bytes : Int) * (n : Int) ≤ 281474976710656 := by
    have h : ((i.bytes * n : Nat) : Int) ≤ 281474976710656 := by rw [hb]; omega
    rwa [Int.natCast_mul] at h
  have hr := run_make (P := P) w t e i z ht hi hz kl kc n n (by omega) (Int.le_refl _) hb' (by omega)
  simp only [Int.toNat_natCast, hs, hzs] at hr
  unfold Oper.wp
  simp [execOp, hop, hl, hc, hr, Result.andThen]
  exact hK' _ _ hK
end
theorem grownBy_setO (w : World) (b i : Nat) (v : Value) : w.grownBy (w.setCell ⟨b, i, none⟩ v) (some b) := by
  refine ⟨rfl, rfl, rfl, by simp [World.setCell], fun k hk hne => ?_⟩
  simp only [World.setCell, Array.getElem?_modify]
  rw [if_neg (fun e => hne (by rw [e]))]
theorem grownBy_two (w : World) (b i j : Nat) (u v : Value) : w.grownBy ((w.setCell ⟨b, i, none⟩ u).setCell ⟨b, j, none⟩ v) (some b) := by
  have h1 := grownBy_setO w b i u
  have h2 := grownBy_setO (w.setCell ⟨b, i, none⟩ u) b j v
  exact ⟨rfl, rfl, rfl, Nat.le_trans h1.size h2.size, fun k hk hne => (h2.block k (Nat.lt_of_lt_of_le hk h1.size) hne).trans (h1.block k hk hne)⟩
/-- Two cells a set: which table is last, and what it costs. -/
def foC (n : Nat) (F : Nat → Int × Int) : Array Value := ((List.range (n * 2)).map fun i => Value.int .i64 (if i % 2 = 0 then (F (i / 2)).1 else (F (i / 2)).2)).toArray
theorem foC_one (n : Nat) (F : Nat → Int × Int) (k : Nat) (h : k < n) : (foC n F)[k * 2]? = some (.int .i64 (F k).1) := by
  unfold foC
  simp only [List.getElem?_toArray, List.getElem?_map]
  rw [List.getElem?_range (by omega)]
  simp [show k * 2 / 2 = k by omega]
theorem foC_two (n : Nat) (F : Nat → Int × Int) (k : Nat) (h : k < n) : (foC n F)[k * 2 + 1]? = some (.int .i64 (F k).2) := by
  unfold foC
  simp only [List.getElem?_toArray, List.getElem?_map]
  rw [List.getElem?_range (by omega)]
  simp [show (k * 2 + 1) % 2 = 1 by omega, show (k * 2 + 1) / 2 = k by omega]
def updF (F : Nat → Int × Int) (k : Nat) (v : Int × Int) : Nat → Int × Int := fun q => if q = k then v else F q
theorem foC_set (n : Nat) (F : Nat → Int × Int) (k : Nat) (a b : Int) (h : k < n) : ((foC n F).setIfInBounds (k * 2) (.int .i64 a)).setIfInBounds (k * 2 + 1) (.int .i64 b) = foC n (updF F k (a, b)) := by
  apply Array.ext_getElem?
  intro i
  rw [Array.getElem?_setIfInBounds, Array.getElem?_setIfInBounds]
  have hz : ∀ G, (foC n G).size = n * 2 := fun G => by simp [foC]
  by_cases hi : i < n * 2
  · have hget : ∀ G : Nat → Int × Int, (foC n G)[i]? = some (.int .i64 (if i % 2 = 0 then (G (i / 2)).1 else (G (i / 2)).2)) := fun G => by
      unfold foC
      simp only [List.getElem?_toArray, List.getElem?_map]
      rw [List.getElem?_range hi]
      rfl
    rw [hget, hget]
    by_cases h1 : k * 2 + 1 = i
    · subst h1
      rw [if_pos rfl, if_pos (by simp [hz]; omega), if_neg (by omega), show (k * 2 + 1) / 2 = k by omega]
      simp [updF]
    · rw [if_neg h1]
      by_cases h2 : k * 2 = i
      · subst h2
        rw [if_pos rfl, if_pos (by rw [hz]; omega), if_pos (by omega), show k * 2 / 2 = k by omega]
        simp [updF]
      · rw [if_neg h2]
        have : i / 2 ≠ k := by omega
        simp [updF, this]
  · have hn : ∀ G : Nat → Int × Int, (foC n G)[i]? = none := fun G => Array.getElem?_eq_none (by rw [hz]; omega)
    rw [hn, hn]
    rw [if_neg (by omega), if_neg (by omega)]
theorem foC_made (n : Nat) : madeCells #[.int .i64 0, .int .i64 0] (n * 2) = foC n fun _ => (0, 0) := by
  apply Array.ext_getElem?
  intro i
  unfold madeCells foC
  simp only [Array.getElem?_map, List.getElem?_toArray, List.getElem?_map]
  by_cases hi : i < n * 2
  · rw [Array.getElem?_range, if_pos hi, List.getElem?_range hi]
    simp only [Option.map_some, ite_self]
    congr 1
    rcases Nat.mod_two_eq_zero_or_one i with h | h <;> simp [h]
  · rw [Array.getElem?_range, if_neg hi, List.getElem?_eq_none (by simp; omega)]
    rfl
/-- What is found of the sets below one. -/
def belF (s : Int → Int) (z : List Int → Int) (c k : Nat) : Nat → Int × Int := fun q => if q < k then (lastB s z c q, costB s z c q) else (0, 0)
theorem belF_succ (s : Int → Int) (z : List Int → Int) (c k : Nat) (v : Int × Int) (h : v = (lastB s z c k, costB s z c k)) : updF (belF s z c k) k v = belF s z c (k + 1) := by
  funext q
  unfold updF belF
  by_cases h1 : q = k
  · subst h1
    rw [if_pos rfl, if_pos (by omega), h]
  · rw [if_neg h1]
    by_cases h2 : q < k
    · rw [if_pos h2, if_pos (by omega)]
    · rw [if_neg h2, if_neg (by omega)]
theorem updF_twice (F : Nat → Int × Int) (k : Nat) (u v : Int × Int) : updF (updF F k u) k v = updF F k v := by
  funext q
  unfold updF
  split <;> rfl
/-- The best of the first tables of a set, as it is kept. -/
def keptB (s : Int → Int) (z : List Int → Int) (T : List Int) (i : Nat) : Int × Int := ((pickTo (candB s z T) T i).1.getLastD 0, (pickTo (candB s z T) T i).2)
theorem keptB_succ (s : Int → Int) (z : List Int → Int) (T : List Int) (i : Nat) (h : i < T.length) :
    keptB s z T (i + 1) = if i = 0 ∨ (candB s z T T[i]).2 < (keptB s z T i).2 then (T[i], (candB s z T T[i]).2) else keptB s z T i := by
  have e : T.getD i 0 = T[i] := by rw [List.getD_eq_getElem?_getD, List.getElem?_eq_getElem h]; rfl
  unfold keptB
  rw [pickTo, e]
  split
  · unfold candB
    simp
  · rfl
theorem keptB_end (s : Int → Int) (z : List Int → Int) (c k : Nat) (h : 2 ≤ (membB c k).length) : keptB s z (membB c k) (membB c k).length = (lastB s z c k, costB s z c k) := by
  unfold keptB lastB costB
  rw [← bstB_more s z h]
theorem kept_none (s : Int → Int) (z : List Int → Int) (c k : Nat) (h : membB c k = []) : ((0, 0) : Int × Int) = (lastB s z c k, costB s z c k) := by
  unfold lastB costB
  rw [h]
  rfl
theorem kept_one (s : Int → Int) (z : List Int → Int) (c k : Nat) (t : Int) (h : membB c k = [t]) : ((t, 0) : Int × Int) = (lastB s z c k, costB s z c k) := by
  unfold lastB costB
  rw [h, bstB_few s z (by simp)]
  rfl
theorem own_setO {w : World} {base n : Nat} {v : Value} {xs : List Value} {b : Nat} {cs : Array Value} (h : w.ownsRow base 3 1 v n xs) (hb : Blok w b 100 cs) {w' : World} (hg : w.grownBy w' (some b)) : w'.ownsRow base 3 1 v n xs := by
  refine own_grown h hg fun k hk hk2 => ?_
  injection hk2 with hk2
  subst hk2
  rcases h.2 with ⟨rfl, _⟩ | ⟨g, cap, cur, rfl, _, hh, _⟩
  · simp [Value.ownBlock] at hk
  · have e1 : g = k := by simpa [Value.ownBlock] using hk
    subst e1
    unfold Blok at hb
    rw [hh] at hb
    simp at hb
end Go.Proofs.YtbglmcebkpkccaaGreatDoor
/- Layer 30: the best order, by the program. Condition: no more than six tables. -/
namespace Go.Proofs.YtbglmcebkpkccaaGreatDoor
open Go.RowKit
attribute [local go_sem] more_cell more_frozen more_more more_setCell more_of_drew more_of_drewN lt_more le_more past_cell past_cell2 past_frozen past_frozen2 past_setCell past_setCell2 mid_cell mid_frozen mid_setCell
attribute [local go_sem] fldC0 fldC1 fldS0
attribute [local go_sem ↓] Go.wp_at_zero Go.wp_at_succ
/-- The scans are gathered. -/
def GsAt (w : World) (sc : Int → Int) (n : Nat) (v i : Value) (wr : World) : Prop := ∃ (j : Nat) (A : Option Addr) (k : Nat), j ≤ n ∧ i = .int .i64 j ∧ v = .slice A j k ∧ Grew w wr ∧ wr.ownsRow w.heap.size 3 1 (.slice A j k) j (iV ((risI j).map sc))
/-- The sets below one have been found. -/
def FsAt (w : World) (b N : Nat) (sc : Int → Int) (sz : List Int → Int) (c : Nat) (As : Option Addr) (kS : Nat) (i : Value) (wr : World) : Prop := ∃ k : Nat, k ≤ N ∧ i = .int .i64 k ∧ Grew w wr ∧ Blok wr b 100 (foC N (belF sc sz c k)) ∧ wr.ownsRow w.heap.size 3 1 (.slice As c kS) c (iV ((risI c).map sc))
/-- The first tables of a set have been tried. -/
def TsAt (w : World) (b N : Nat) (sc : Int → Int) (sz : List Int → Int) (c : Nat) (As : Option Addr) (kS : Nat) (k : Nat) (T : List Int) (At : Option Addr) (kT : Nat) (i : Value) (wr : World) : Prop := ∃ q : Nat, q ≤ T.length ∧ i = .int .i64 q ∧ (T.length = 1 → q = 0) ∧ Grew w wr ∧ Blok wr b 100 (foC N (updF (belF sc sz c k) k (keptB sc sz T q))) ∧ wr.ownsRow w.heap.size 3 1 (.slice As c kS) c (iV ((risI c).map sc)) ∧ wr.ownsRow w.heap.size 3 1 (.slice At T.length kT) T.length (iV T)
theorem updF_self (F : Nat → Int × Int) (k : Nat) : updF F k (F k) = F := by
  funext q
  unfold updF
  split
  · rename_i h; rw [h]
  · rfl
set_option maxHeartbeats 16000000 in
set_option maxRecDepth 100000 in
/-- The order that costs least, of no more than six tables. -/
theorem best_any (sc : Int → Int) (sz : List Int → Int) (sts : Value) (x : Nm) (hx : x.scan.length ≤ 6) (X : Option Addr) (kx : Nat) (B : Option Addr) (j : Nat) (C : Option Addr) (c0 : Nat) (D : Option Addr) (d : Nat) (E : Option Addr) (e : Nat) (w : World)
    (hK : KCost w sc sz (.agg (nmC x X kx B j C c0 D d E e)) sts) :
    Calls Tryz.prog 23 #[.agg (nmC x X kx B j C c0 D d E e), sts] w (OwnI w (bestP sc sz x.scan.length)) := by
  obtain ⟨W0, hW0⟩ : ∃ W0, W0 = w.alloc (.cells (nmC x X kx B j C c0 D d E e) 39) := ⟨_, rfl⟩
  have HG0 : Hid (Grew w W0) := Lib.hid (by rw [hW0]; exact (Grew.refl w).alloc _)
  have HX0 : Hid (Blok W0 w.heap.size 39 (nmC x X kx B j C c0 D d E e)) := Lib.hid (by rw [hW0]; exact Blok.new _ _ _ _ rfl)
  have HK := Lib.hid (hK.grew HG0.out)
  clear hK
  obtain ⟨x0, m0, m1, m2, m3, m4, m5⟩ := nm6 HX0.out
  obtain ⟨c, hc⟩ : ∃ c, x.scan.length = c := ⟨_, rfl⟩
  rw [hc] at hx m1 ⊢
  have HC := Lib.hid hc
  clear hc
  have hc6 : decide ((6 : Int) < (c : Int)) = false := decide_eq_false (by omega)
  obtain ⟨N, hN⟩ : ∃ N : Nat, N = 2 ^ c := ⟨_, rfl⟩
  have hN64 : N ≤ 64 := by rw [hN]; exact (Nat.pow_le_pow_right (by decide) hx : 2 ^ c ≤ 2 ^ 6)
  have hwN : IntKind.i64.wrap ((2 : Int) ^ c) = (N : Int) := by rw [bit_shl c (by omega), hN]; simp
  have HN := Lib.hid hN
  clear hN
  unfold nmC at hW0 HK ⊢
  rw [HC.out] at hW0 HK ⊢
  go_enter Tryz.func23, Tryz.ntmps23
  go_upto_region 1 with fail
  rw [← hW0]
  clear hW0
  go_step3
  go_wp2
  go_loopw [6, 21] (fun v i wr => GsAt W0 sc c v i wr) (fun _ i _ => c - (intOf i).toNat)
  case atStart => exact ⟨0, none, 0, Nat.zero_le _, rfl, rfl, Grew.refl _, own_none _ _ _ _⟩
  case round =>
    obtain ⟨q, A1, c1, hq, rfl, rfl, hg, ho⟩ := hrel
    have HG := Lib.hid hg
    have HO := Lib.hid ho
    clear hg ho x0 m0 m1 m2 m3 m4 m5
    obtain ⟨x0, m0, m1, m2, m3, m4, m5⟩ := nm6 (HX0.out.grew HG.out)
    rw [HC.out] at m1
    by_cases hlt : q < c
    · have HSa : Hid (∀ W, Grew wr W → Gives Tryz.prog 11 #[.agg #[.int .i64 x.core, .slice X c kx, .slice B x.edges.length j, .slice C x.rest.length c0, .slice D x.late.length d, .slice E x.wh.length e], sts, .int .i64 q] W (.int .i64 (sc q))) := Lib.hid fun W hW => HK.out.scan q W (HG.out.trans hW)
      have HT : Hid (iV ((risI (q + 1)).map sc) = iV ((risI q).map sc) ++ [.int .i64 (sc q)]) := Lib.hid (by rw [risI_succ]; simp [iV])
      generalize sc q = sq at *
      go_wp2_with (first | (go_at_call 11; (with_reducible refine (HSa.out _ (Grew.refl _)).grows.mono ?_); rintro en w8 ⟨rfl, hg8⟩; have HG8 := Lib.hid (HG.out.trans hg8); have HO8 := Lib.hid (own_grewE HO.out hg8); clear hg8) | (at_builtin; refine wpList_appB rfl _ _ 31 3 1 rfl W0.heap.size (.int .i64 0) 8 Tryz.underlying31 infoI rfl (by decide) (by decide) _ q (iV ((risI q).map sc)) rfl (own_alloc HO8.out (.cells #[.int .i64 sq] 3)) _ 1 1 [.int .i64 sq] rfl rfl (row_one _ _ _ _ rfl) (by simp [Value.oneCell']) (by omega) (by rw [World.size_alloc]; have := HG8.out.size; omega) ?_; intro A9 c9 w9 ho9 hb9; rw [← HT.out] at ho9; have HG9 := Lib.hid ((HG8.out.alloc (.cells #[.int .i64 sq] 3)).grown hb9 (own_base HO8.out)); have HO9 := Lib.hid ho9; clear ho9 hb9))
      exact ⟨⟨q + 1, A9, c9, by omega, by go_num, rfl, HG9.out, HO9.out⟩, by simp only [intOf]; omega⟩
    · obtain rfl : q = c := by omega
      go_wp2_with (at_make; refine wpList_make_rowsO _ rfl _ _ 97 rfl 100 (.agg #[.int .i64 0, .int .i64 0]) #[.int .i64 0, .int .i64 0] 2 16 Tryz.underlying97 infoBe rfl _ _ N rfl rfl (by omega) (by omega) ?_)
      -- the sets
      obtain ⟨W5, hW5⟩ : ∃ W5, W5 = wr.alloc (.cells (madeCells #[.int .i64 0, .int .i64 0] (N * 2)) 100) := ⟨_, rfl⟩
      obtain ⟨b, hb⟩ : ∃ b, b = wr.heap.size := ⟨_, rfl⟩
      have HG5 : Hid (Grew W0 W5) := Lib.hid (by rw [hW5]; exact HG.out.alloc _)
      have HB5 : Hid (Blok W5 b 100 (foC N (belF sc sz q 0))) := Lib.hid (by
        rw [hW5, foC_made, show belF sc sz q 0 = fun _ => (0, 0) from by funext z; unfold belF; rw [if_neg (by omega)]]
        exact Blok.new _ _ _ _ hb)
      have HO5 : Hid (W5.ownsRow W0.heap.size 3 1 (.slice A1 q c1) q (iV ((risI q).map sc))) := Lib.hid (by rw [hW5]; exact own_alloc HO.out _)
      have HbW : Hid (W0.heap.size ≤ b) := Lib.hid (by rw [hb]; exact HG.out.size)
      rw [← hb, ← hW5]
      clear hW5 hb HG HO x0 m0 m1 m2 m3 m4 m5
      go_step3
      go_wp2
      go_loopw [37] (fun i wr => FsAt W0 b N sc sz q A1 c1 i wr) (fun i _ => N - (intOf i).toNat)
      case atStart => exact ⟨0, Nat.zero_le _, rfl, HG5.out, HB5.out, HO5.out⟩
      case round =>
        obtain ⟨k, hk, rfl, hg, hbk, ho⟩ := hrel
        have HG := Lib.hid hg
        have HB := Lib.hid hbk
        have HO := Lib.hid ho
        clear hg hbk ho HG5 HB5 HO5
        by_cases hkN : k < N
        · obtain ⟨T, hT⟩ : ∃ T, T = membB q k := ⟨_, rfl⟩
          have hTl : T.length ≤ 6 := by rw [hT]; exact Nat.le_trans (membB_len _ _) hx
          have HMe : Hid (∀ W, Calls Tryz.prog 64 #[.int .i64 k, .int .i64 q] W (OwnI W T)) := Lib.hid fun W => by rw [hT]; exact members_any q k hx (by omega) W
          have HSz : Hid (∀ S kS W, Grew W0 W → Row W S (iV T) → Gives Tryz.prog 16 #[.agg #[.int .i64 x.core, .slice X q kx, .slice B x.edges.length j, .slice C x.rest.length c0, .slice D x.late.length d, .slice E x.wh.length e], sts, .slice S T.length kS] W (.int .i64 (sz T))) := Lib.hid fun S kS W hW hr => HK.out.size T S kS W (by omega) hW hr
          obtain ⟨zT, hzT⟩ : ∃ zT, sz T = zT := ⟨_, rfl⟩
          rw [hzT] at HSz
          have HZT := Lib.hid hzT
          have HTe := Lib.hid hT
          clear hzT hT
          obtain ⟨x0, m0, m1, m2, m3, m4, m5⟩ := nm6 (HX0.out.grew HG.out)
          rw [HC.out] at m1
          go_upto_region 15 with (go_at_call 64; (with_reducible refine (HMe.out _).mono ?_); rintro en w6 ⟨At, kT, rfl, hg6, ho6⟩; have HG6 := Lib.hid (HG.out.trans hg6); have HB6 := Lib.hid (HB.out.grew hg6); have HO6 := Lib.hid (own_grewE HO.out hg6); have HT6 := Lib.hid (own_le ho6 HG.out.size); clear hg6 ho6)
          clear x0 m0 m1 m2 m3 m4 m5 HG HB HO HMe
          obtain ⟨x0, m0, m1, m2, m3, m4, m5⟩ := nm6 (HX0.out.grew HG6.out)
          rw [HC.out] at m1
          go_upto_region 16 with (go_at_call 16; (with_reducible refine (HSz.out _ _ _ HG6.out (own_rowI HT6.out)).grows.mono ?_); rintro en w7 ⟨rfl, hg7⟩; have HG7 := Lib.hid (HG6.out.trans hg7); have HB7 := Lib.hid (HB6.out.grew hg7); have HO7 := Lib.hid (own_grewE HO6.out hg7); have HT7 := Lib.hid (own_grewE HT6.out hg7); clear hg7)
          clear x0 m0 m1 m2 m3 m4 m5 HG6 HB6 HO6 HT6 HSz
          go_wp2
          go_loopw [49] (fun i wr => TsAt W0 b N sc sz q A1 c1 k T At kT i wr) (fun i _ => T.length - (intOf i).toNat)
          case atStart => exact ⟨0, Nat.zero_le _, rfl, fun _ => rfl, HG7.out, by rw [show keptB sc sz T 0 = belF sc sz q k k from by unfold belF; rw [if_neg (by omega)]; rfl, updF_self]; exact HB7.out, HO7.out, HT7.out⟩
          case round =>
            obtain ⟨i, hi, rfl, hone, hg, hbk, ho, hot⟩ := hrel
            have HG := Lib.hid hg
            have HB := Lib.hid hbk
            have HO := Lib.hid ho
            have HT := Lib.hid hot
            have HOne := Lib.hid hone
            clear hg hbk ho hot HG7 HB7 HO7 HT7 hone
            by_cases hiT : i < T.length
            · obtain ⟨bt, ot, hAt, hbt, hct⟩ := rowI_at (own_rowI HT.out) hiT
              obtain ⟨t, ht, htc, htb⟩ := (membB_mem q k T[i]).1 (by have := List.getElem_mem hiT; rw [← HTe.out]; exact this)
              subst hAt
              have HTi := Lib.hid ht
              rw [ht] at hct
              clear ht
              obtain ⟨_, _, hcB⟩ : b < wr.heap.size ∧ True ∧ ∀ i, wr.cell? ⟨b, i, none⟩ = _ := ⟨HB.out.lt, trivial, HB.out.cell⟩
              have c1b := hcB (k * 2)
              have c2b := hcB (k * 2 + 1)
              rw [foC_one _ _ _ hkN] at c1b
              rw [foC_two _ _ _ hkN] at c2b
              have f1b := HB.out.thaw (k * 2)
              have f2b := HB.out.thaw (k * 2 + 1)
              have hkb := HB.out.lt
              rw [show updF (belF sc sz q k) k (keptB sc sz T i) k = keptB sc sz T i from by unfold updF; rw [if_pos rfl]] at c1b c2b
              clear hcB
              by_cases h1 : T.length = 1
              · obtain rfl : i = 0 := HOne.out h1
                rw [Nat.add_zero] at hct
                have e1 : ((T.length : Int) == 1) = true := by rw [h1]; rfl
                have HK1 : Hid (((t : Int), (0 : Int)) = (lastB sc sz q k, costB sc sz q k)) := Lib.hid (kept_one sc sz q k t (by
                  rw [← HTe.out]
                  obtain ⟨y, hy⟩ := List.length_eq_one_iff.1 h1
                  subst hy
                  have := HTi.out
                  simp only [List.getElem_cons_zero] at this
                  rw [this]))
                have HBs : Hid (Blok ((wr.setCell ⟨b, k * 2, none⟩ (.int .i64 t)).setCell ⟨b, k * 2 + 1, none⟩ (.int .i64 0)) b 100 (foC N (belF sc sz q (k + 1)))) := Lib.hid (by
                  have h := (HB.out.set (k * 2) (.int .i64 t)).set (k * 2 + 1) (.int .i64 0)
                  rw [foC_set _ _ _ _ _ hkN, updF_twice, belF_succ _ _ _ _ _ HK1.out] at h
                  exact h)
                have HGw := Lib.hid (grownBy_two wr b (k * 2) (k * 2 + 1) (.int .i64 t) (.int .i64 0))
                clear h1
                go_wp2
                exact ⟨⟨k + 1, by omega, by go_num, HG.out.grown HGw.out (fun z hz => by injection hz with hz; have := HbW.out; omega), HBs.out, own_setO HO.out HB.out HGw.out⟩, by simp only [intOf]; omega⟩
              · have e1 : ((T.length : Int) == 1) = false := by simp; omega
                obtain ⟨g, hg⟩ : ∃ g, g = clearB k t := ⟨_, rfl⟩
                have hgk : g < k := by rw [hg]; exact clear_lt htb
                have hgN : (g : Int) < (N : Int) := by omega
                have hw1 := bit_shl t (by omega)
                have hw2 := bit_andNot k (by omega) t (by omega)
                rw [← hg] at hw2
                have c3b := HB.out.cell (g * 2 + 1)
                rw [foC_two _ _ _ (by omega), show updF (belF sc sz q k) k (keptB sc sz T i) g = (lastB sc sz q g, costB sc sz q g) from by unfold updF belF; rw [if_neg (by omega), if_pos hgk]] at c3b
                obtain ⟨bs, os, hAs, hbs, hcs⟩ := rowI_at (own_rowI HO.out) (j := t) (by rw [List.length_map, risI_len]; exact htc)
                rw [show ((risI q).map sc)[t]'(by rw [List.length_map, risI_len]; exact htc) = sc t from by simp [risI]] at hcs
                have HCn : Hid (stepA (costB sc sz q g) (sc t) zT = (candB sc sz T T[i]).2) := Lib.hid (by
                  rw [HTi.out, ← HZT.out, hg]
                  unfold candB costB
                  rw [membB_clear hx (by omega) (by omega), ← HTe.out])
                have HKs := Lib.hid (keptB_succ sc sz T i hiT)
                rw [HTi.out] at HKs HCn
                rw [← HCn.out] at HKs
                have hKe : keptB sc sz T (i + 1) = _ := HKs.out
                clear HKs HCn
                generalize hcn : stepA (costB sc sz q g) (sc t) zT = cn at *
                have HCn := Lib.hid hcn
                clear hcn hg
                generalize costB sc sz q g = cg at *
                generalize sc t = st at *
                generalize hkp : keptB sc sz T i = kp at *
                obtain ⟨kv1, kv2⟩ := kp
                simp only at c1b c2b hKe
                have HKe := Lib.hid hKe
                clear hKe hkp
                have HCells : Hid (∀ W, Grew wr W → (b < W.heap.size ∧ W.cell? ⟨b, g * 2 + 1, none⟩ = some (.int .i64 cg)) ∧ (bs < W.heap.size ∧ W.cell? ⟨bs, os + t, none⟩ = some (.int .i64 st))) := Lib.hid fun W hW => ⟨cell_grewK hW hkb c3b, cell_grewK hW hbs hcs⟩
                subst hAs
                have hqt : (t : Int) < (q : Int) := by omega
                go_upto_region 21 with fail
                clear c3b hcs hct hbt c1b c2b f1b f2b
                obtain ⟨W1, hW1⟩ : ∃ W1, W1 = wr.drew := ⟨_, rfl⟩
                have hS0 : Grew wr W1 := by rw [hW1]; exact (Grew.refl wr).drew
                refine wp_region_S (fun W => Grew wr W) (by kernel_rfl) ?_
                rw [← hW1]
                clear hW1
                refine held_take 0 (v := ?_) rfl (by kernel_rfl) (by kernel_rfl) (by kernel_rfl) (fun _ _ _ h => h) (by rfl) ?_ hS0 ?_; rotate_left; · (intro W hW; obtain ⟨⟨hb1, hc1⟩, hb2, hc2⟩ := HCells.out W hW; go_simp; with_reducible rfl)
                refine held_take 1 (v := ?_) rfl (by kernel_rfl) (by kernel_rfl) (by kernel_rfl) (fun _ _ _ h => h) (by rfl) ?_ hS0 ?_; rotate_left; · (intro W hW; obtain ⟨⟨hb1, hc1⟩, hb2, hc2⟩ := HCells.out W hW; go_simp; with_reducible rfl)
                refine held_take 2 (v := ?_) rfl (by kernel_rfl) (by kernel_rfl) (by kernel_rfl) (fun _ _ _ h => h) (by rfl) ?_ hS0 ?_; rotate_left; · (intro W hW; obtain ⟨⟨hb1, hc1⟩, hb2, hc2⟩ := HCells.out W hW; go_simp; with_reducible rfl)
                refine held_take 3 (v := ?_) rfl (by kernel_rfl) (by kernel_rfl) (by kernel_rfl) (fun _ _ _ h => h) (by rfl) ?_ hS0 ?_; rotate_left; · (intro W hW; obtain ⟨⟨hb1, hc1⟩, hb2, hc2⟩ := HCells.out W hW; go_simp; with_reducible rfl)
                refine held_take 4 (v := ?_) rfl (by kernel_rfl) (by kernel_rfl) (by kernel_rfl) (fun _ _ _ h => h) (by rfl) ?_ hS0 ?_; rotate_left; · (intro W hW; obtain ⟨⟨hb1, hc1⟩, hb2, hc2⟩ := HCells.out W hW; go_simp; with_reducible rfl)
                refine held_take 5 (v := ?_) rfl (by kernel_rfl) (by kernel_rfl) (by kernel_rfl) (fun _ _ _ h => h) (by rfl) ?_ hS0 ?_; rotate_left; · (intro W hW; obtain ⟨⟨hb1, hc1⟩, hb2, hc2⟩ := HCells.out W hW; go_simp; with_reducible rfl)
                refine held_take 6 (v := ?_) rfl (by kernel_rfl) (by kernel_rfl) (by kernel_rfl) (fun _ _ _ h => h) (by rfl) ?_ hS0 ?_; rotate_left; · (intro W hW; obtain ⟨⟨hb1, hc1⟩, hb2, hc2⟩ := HCells.out W hW; go_simp; with_reducible rfl)
                refine held_take 7 (v := ?_) rfl (by kernel_rfl) (by kernel_rfl) (by kernel_rfl) (fun _ _ _ h => h) (by rfl) ?_ hS0 ?_; rotate_left; · (intro W hW; obtain ⟨⟨hb1, hc1⟩, hb2, hc2⟩ := HCells.out W hW; go_simp; with_reducible rfl)
                refine held_norm (a' := ?_) ?_ ?_; rotate_left; · (go_simp; with_reducible rfl)
                refine held_take 8 (v := ?_) rfl (by kernel_rfl) (by kernel_rfl) (by kernel_rfl) (fun _ _ _ h => h) (by rfl) ?_ hS0 ?_; rotate_left; · (intro W hW; obtain ⟨⟨hb1, hc1⟩, hb2, hc2⟩ := HCells.out W hW; go_simp; with_reducible rfl)
                refine held_take 9 (v := ?_) rfl (by kernel_rfl) (by kernel_rfl) (by kernel_rfl) (fun _ _ _ h => h) (by rfl) ?_ hS0 ?_; rotate_left; · (intro W hW; obtain ⟨⟨hb1, hc1⟩, hb2, hc2⟩ := HCells.out W hW; go_simp; with_reducible rfl)
                refine held_take 10 (v := ?_) rfl (by kernel_rfl) (by kernel_rfl) (by kernel_rfl) (fun _ _ _ h => h) (by rfl) ?_ hS0 ?_; rotate_left; · (intro W hW; obtain ⟨⟨hb1, hc1⟩, hb2, hc2⟩ := HCells.out W hW; go_simp; with_reducible rfl)
                refine held_take 11 (v := ?_) rfl (by kernel_rfl) (by kernel_rfl) (by kernel_rfl) (fun _ _ _ h => h) (by rfl) ?_ hS0 ?_; rotate_left; · (intro W hW; obtain ⟨⟨hb1, hc1⟩, hb2, hc2⟩ := HCells.out W hW; go_simp; with_reducible rfl)
                refine held_take 12 (v := ?_) rfl (by kernel_rfl) (by kernel_rfl) (by kernel_rfl) (fun _ _ _ h => h) (by rfl) ?_ hS0 ?_; rotate_left; · (intro W hW; obtain ⟨⟨hb1, hc1⟩, hb2, hc2⟩ := HCells.out W hW; go_simp; with_reducible rfl)
                refine held_norm (a' := ?_) ?_ ?_; rotate_left; · (go_simp; with_reducible rfl)
                refine held_call 13 (by kernel_rfl) rfl (by rfl) (fun K hK => ?_)
                go_simp
                go_wp2_with fail
                refine hK.out _ _ (hS0.alloc _) ?_
                clear hK K
                refine held_call 14 (by kernel_rfl) rfl (by rfl) (fun K hK => ?_)
                go_simp
                go_wp2_with ((go_at_call 62; (with_reducible refine (add3_any _ _ _ _ _ _ (row_new _ _ _ _ rfl)).mono ?_); rintro en wz ⟨rfl, hwz⟩; subst hwz))
                refine hK.out _ _ (hS0.alloc _) ?_
                clear hK K
                refine held_take 15 (v := ?_) rfl (by kernel_rfl) (by kernel_rfl) (by kernel_rfl) (fun _ _ _ h => h) (by rfl) ?_ (hS0.alloc _) ?_; rotate_left; · (intro W hW; go_simp; with_reducible rfl)
                refine held_norm (a' := ?_) ?_ ?_; rotate_left; · (go_simp; with_reducible rfl)
                refine held_done (by kernel_rfl) ?_
                rw [HCn.out]
                have HGz := Lib.hid (hS0.alloc (.cells #[.int .i64 cg, .int .i64 st, .int .i64 zT] 3))
                clear hS0 HCells HCn
                generalize W1.alloc (.cells #[.int .i64 cg, .int .i64 st, .int .i64 zT] 3) = wy at *
                have HGy := Lib.hid (HG.out.trans HGz.out)
                have HBy := Lib.hid (HB.out.grew HGz.out)
                have HOy := Lib.hid (own_grewE HO.out HGz.out)
                have HTy := Lib.hid (own_grewE HT.out HGz.out)
                have hkby := HBy.out.lt
                have c1y := HBy.out.cell (k * 2)
                have c2y := HBy.out.cell (k * 2 + 1)
                rw [foC_one _ _ _ hkN, show updF (belF sc sz q k) k (kv1, kv2) k = (kv1, kv2) from by unfold updF; rw [if_pos rfl]] at c1y
                rw [foC_two _ _ _ hkN, show updF (belF sc sz q k) k (kv1, kv2) k = (kv1, kv2) from by unfold updF; rw [if_pos rfl]] at c2y
                have f1y := HBy.out.thaw (k * 2)
                have f2y := HBy.out.thaw (k * 2 + 1)
                simp only at c1y c2y
                have HBs : Hid (Blok ((wy.setCell ⟨b, k * 2, none⟩ (.int .i64 t)).setCell ⟨b, k * 2 + 1, none⟩ (.int .i64 cn)) b 100 (foC N (updF (belF sc sz q k) k (t, cn)))) := Lib.hid (by
                  have h := (HBy.out.set (k * 2) (.int .i64 t)).set (k * 2 + 1) (.int .i64 cn)
                  rw [foC_set _ _ _ _ _ hkN, updF_twice] at h
                  exact h)
                have HGw := Lib.hid (grownBy_two wy b (k * 2) (k * 2 + 1) (.int .i64 t) (.int .i64 cn))
                have HG3 : Hid (Grew W0 ((wy.setCell ⟨b, k * 2, none⟩ (.int .i64 t)).setCell ⟨b, k * 2 + 1, none⟩ (.int .i64 cn))) := Lib.hid (HGy.out.grown HGw.out (fun z hz => by injection hz with hz; have := HbW.out; omega))
                clear HG HB HO HT HGz
                by_cases hi0 : i = 0
                · have e2 : ((i : Int) == 0) = true := by rw [hi0]; rfl
                  have HKe2 : Hid (keptB sc sz T (i + 1) = ((t : Int), cn)) := Lib.hid (by rw [HKe.out, if_pos (Or.inl hi0)])
                  clear hi0
                  go_wp2
                  exact ⟨⟨i + 1, by omega, by go_num, fun h => absurd h h1, HG3.out, by rw [HKe2.out]; exact HBs.out, own_setO HOy.out HBy.out HGw.out, own_setO HTy.out HBy.out HGw.out⟩, by simp only [intOf]; omega⟩
                · have e2 : ((i : Int) == 0) = false := by simp; omega
                  by_cases hlc : cn < kv2
                  · have HKe2 : Hid (keptB sc sz T (i + 1) = ((t : Int), cn)) := Lib.hid (by rw [HKe.out, if_pos (Or.inr hlc)])
                    have e3 : decide (cn < kv2) = true := decide_eq_true hlc
                    clear hi0
                    go_wp2
                    exact ⟨⟨i + 1, by omega, by go_num, fun h => absurd h h1, HG3.out, by rw [HKe2.out]; exact HBs.out, own_setO HOy.out HBy.out HGw.out, own_setO HTy.out HBy.out HGw.out⟩, by simp only [intOf]; omega⟩
                  · have HKe2 : Hid (keptB sc sz T (i + 1) = (kv1, kv2)) := Lib.hid (by rw [HKe.out, if_neg (by rintro (h | h); exact hi0 h; exact hlc h)])
                    have e3 : decide (cn < kv2) = false := decide_eq_false hlc
                    clear hi0 HBs HGw HG3
                    go_wp2
                    exact ⟨⟨i + 1, by omega, by go_num, fun h => absurd h h1, HGy.out, by rw [HKe2.out]; exact HBy.out, HOy.out, HTy.out⟩, by simp only [intOf]; omega⟩
            · obtain rfl : i = T.length := by omega
              have hEnd : updF (belF sc sz q k) k (keptB sc sz T T.length) = belF sc sz q (k + 1) := belF_succ sc sz q k _ (by
                rcases Nat.lt_or_ge T.length 2 with h2 | h2
                · by_cases h1 : T.length = 1
                  · have := HOne.out h1; omega
                  · have h0 : T = [] := List.eq_nil_of_length_eq_zero (by omega)
                    rw [h0]
                    exact kept_none sc sz q k (by rw [← HTe.out, h0])
                · rw [HTe.out] at h2 ⊢
                  exact keptB_end sc sz q k h2)
              rw [hEnd] at HB
              clear hEnd
              go_wp2
              exact ⟨⟨k + 1, by omega, by go_num, HG.out, HB.out, HO.out⟩, by simp only [intOf]; omega⟩
        · obtain rfl : k = N := by omega
          obtain ⟨N1, rfl⟩ : ∃ N1, k = N1 + 1 := ⟨k - 1, by have h1 := HN.out; have h2 := Nat.two_pow_pos q; omega⟩
          have HUn : Hid (Calls Tryz.prog 65 #[.slice (some ⟨b, 0, none⟩) (N1 + 1) (N1 + 1), .int .i64 N1] wr (OwnI wr (bestP sc sz q))) := Lib.hid (by
            have h := unrolled_any sc sz q N1 (N1 + 1) (N1 + 1) hx (by rw [← HN.out]; omega) (by rw [HN.out]; exact Nat.le_refl _) b wr ⟨HB.out.lt, fun z hz => by
              rw [← HN.out] at hz
              have e : belF sc sz q (N1 + 1) z = (lastB sc sz q z, costB sc sz q z) := by unfold belF; rw [if_pos hz]
              exact ⟨by rw [HB.out.cell, foC_one _ _ _ hz, e], by rw [HB.out.cell, foC_two _ _ _ hz, e]⟩⟩
            rw [show N1 = 2 ^ q - 1 by rw [← HN.out]; omega, membB_full] at h
            rw [show N1 = 2 ^ q - 1 by rw [← HN.out]; omega]
            exact h)
          clear hwN
          go_wp2_with (go_at_call 65; (with_reducible refine HUn.out.mono ?_); rintro en w9 ⟨A9, c9, rfl, hg9, ho9⟩; have HG9 := Lib.hid hg9; have HO9 := Lib.hid ho9; clear hg9 ho9)
          try rw [Exit.noGoto_ret]
          go_ret
          exact ⟨A9, c9, rfl, HG0.out.trans (HG.out.trans HG9.out), own_le HO9.out (HG0.out.trans HG.out).size⟩
end Go.Proofs.YtbglmcebkpkccaaGreatDoor
/- Layer 30: the page's example. No condition. -/
namespace Go.Proofs.YtbglmcebkpkccaaGreatDoor
open Go.RowKit
attribute [local go_sem] more_cell more_frozen more_more more_setCell more_of_drew more_of_drewN lt_more le_more past_cell past_cell2 past_frozen past_frozen2 past_setCell past_setCell2 mid_cell mid_frozen mid_setCell
attribute [local go_sem] fldC0 fldC1 fldS0
attribute [local go_sem ↓] Go.wp_at_zero Go.wp_at_succ
def liveX : Nm := ⟨3, [[], [], []], [], [], [], []⟩
def liveL : List Sst := [⟨10, []⟩, ⟨100, []⟩, ⟨1, []⟩]
set_option maxRecDepth 100000 in
theorem live_best : bestP (scanK (heldAll liveL) liveX.scan) (sizeK (heldAll liveL) liveX.scan liveX.edges) 3 = [1, 2, 0] := by decide +kernel
set_option maxRecDepth 100000 in
theorem live_cost : costS (scanK (heldAll liveL) liveX.scan) (sizeK (heldAll liveL) liveX.scan liveX.edges) [1, 2, 0] = 1111 := by decide +kernel
end Go.Proofs.YtbglmcebkpkccaaGreatDoor
/- Layer 30: the guesses that an order is made by, by program and document. Condition: no more than a thousand tables; what is said, conditions and edges in memory that is there. -/
namespace Go.Proofs.YtbglmcebkpkccaaGreatDoor
open Go.RowKit
attribute [local go_sem] more_cell more_frozen more_more more_setCell more_of_drew more_of_drewN lt_more le_more past_cell past_cell2 past_frozen past_frozen2 past_setCell past_setCell2 mid_cell mid_frozen mid_setCell
attribute [local go_sem] fldC0 fldC1 fldS0
attribute [local go_sem ↓] Go.wp_at_zero Go.wp_at_succ
theorem scaleI_sI (n : Int) (f : Nat) : sI (scaleI n f) := by
  have h := cutI_s n
  unfold sI at h ⊢
  unfold scaleI
  omega
theorem scanK_s (sd : List Sst) (sc : List (List Ex)) (t : Int) : sI (scanK sd sc t) := by
  unfold scanK
  split
  · exact scaleI_sI _ _
  · unfold sI; omega
theorem sizeK_s (sd : List Sst) (sc : List (List Ex)) (es : List Ed) (set : List Int) : sI (sizeK sd sc es set) := scaleI_sI _ _
theorem kcost_of (l : List Sst) (hl : l.length ≤ 1000000) (hm : LitSd l) (x : Nm) (hx : ∀ l ∈ x.scan, l.length ≤ 1000000) (hx1 : x.scan.length ≤ 1000) (hx2 : x.edges.length ≤ 1000000) (A : Option Addr) (k : Nat) (X : Option Addr) (kx : Nat) (B : Option Addr) (j : Nat) (C : Option Addr) (c : Nat) (D : Option Addr) (d : Nat) (E : Option Addr) (e : Nat) (w : World)
    (ra : SstsR (PRow w) A l) (ht : TurnC w) (rn : XllR (PRow w) X x.scan) (re : EdsR (PRow w) B x.edges) : KCost w (scanK (heldAll l) x.scan) (sizeK (heldAll l) x.scan x.edges) (.agg (nmC x X kx B j C c D d E e)) (.slice A l.length k) :=
  ⟨fun t W hW => costScan_any l hl hm x hx t A k X kx B j C c D d E e W (ra.grew hW) (ht.grew hW) (rn.grew hW),
   fun set S ks W hs hW hr => costSize_any l hl hm x hx hx1 hx2 set hs A k X kx B j C c D d E e S ks W (ra.grew hW) (ht.grew hW) (rn.grew hW) (re.grew hW) hr,
   scanK_s _ _, sizeK_s _ _ _⟩
theorem rcost_of (l : List Sst) (hm : LitSd l) (x : Nm) (hx : ∀ l ∈ x.scan, l.length ≤ 1000000) (hx1 : x.scan.length ≤ 1000) (hx2 : x.edges.length ≤ 1000000) (A : Option Addr) (k : Nat) (X : Option Addr) (kx : Nat) (B : Option Addr) (j : Nat) (C : Option Addr) (c : Nat) (D : Option Addr) (d : Nat) (E : Option Addr) (e : Nat) (w : World)
    (ra : SstsR (PRow w) A l) (rn : XllR (PRow w) X x.scan) (re : EdsR (PRow w) B x.edges) : RCost w (scanK (heldAll l) x.scan) (sizeK (heldAll l) x.scan x.edges) (.agg (nmC x X kx B j C c D d E e)) (.slice A l.length k) :=
  ⟨fun t W hW => rscan_any l hm x hx t A k X kx B j C c D d E e W (ra.grew hW) (rn.grew hW),
   fun set S ks W hs hW hr => refSize_any l hm x hx hx1 hx2 set hs A k X kx B j C c D d E e S ks W (ra.grew hW) (rn.grew hW) (re.grew hW) hr,
   scanK_s _ _, sizeK_s _ _ _⟩
end Go.Proofs.YtbglmcebkpkccaaGreatDoor
/- Layer 30: the page's example, walked. Condition: the turned signs as they are laid. -/
namespace Go.Proofs.YtbglmcebkpkccaaGreatDoor
open Go.RowKit
attribute [local go_sem] more_cell more_frozen more_more more_setCell more_of_drew more_of_drewN lt_more le_more past_cell past_cell2 past_frozen past_frozen2 past_setCell past_setCell2 mid_cell mid_frozen mid_setCell
attribute [local go_sem] fldC0 fldC1 fldS0
attribute [local go_sem ↓] Go.wp_at_zero Go.wp_at_succ
theorem live_lit : LitSd liveL := fun s hs => by
  simp only [liveL, List.mem_cons, List.not_mem_nil, or_false] at hs
  rcases hs with rfl | rfl | rfl <;> exact ⟨by simp, fun x hx => by simp at hx⟩
theorem row_blokO {w : World} {b : Nat} {t : TypeId} {cs : Array Value} (h : Blok w b t cs) : Row w (some ⟨b, 0, none⟩) cs.toList :=
  Or.inr ⟨b, 0, rfl, h.lt, fun j u hu => by rw [Nat.zero_add, h.cell, ← hu]; simp⟩
theorem live_stats {w : World} {b : Nat} (h : Blok w b 58 #[.int .i64 10, .slice none 0 0, .int .i64 100, .slice none 0 0, .int .i64 1, .slice none 0 0]) : SstsR (PRow w) (some ⟨b, 0, none⟩) liveL := by
  have hr : ∀ n : Int, SstR (PRow w) ⟨n, []⟩ [.int .i64 n, .slice none 0 0] := fun n => ⟨none, 0, rfl, [], ListR.nil, Or.inl rfl⟩
  exact ⟨[[.int .i64 10, .slice none 0 0], [.int .i64 100, .slice none 0 0], [.int .i64 1, .slice none 0 0]], ((ListR.nil.snoc (hr 10) rfl).snoc (hr 100) rfl).snoc (hr 1) rfl, row_blokO h⟩
theorem live_scan {w : World} {b p q r : Nat} (h : Blok w b 22 #[.slice (some ⟨p, 0, none⟩) 0 0, .slice (some ⟨q, 0, none⟩) 0 0, .slice (some ⟨r, 0, none⟩) 0 0]) : XllR (PRow w) (some ⟨b, 0, none⟩) liveX.scan := by
  have hr : ∀ A, XlR (PRow w) ([] : List Ex) [.slice A 0 0] := fun A => ⟨A, 0, rfl, [], ListR.nil, Or.inl rfl⟩
  exact ⟨[[.slice (some ⟨p, 0, none⟩) 0 0], [.slice (some ⟨q, 0, none⟩) 0 0], [.slice (some ⟨r, 0, none⟩) 0 0]], ((ListR.nil.snoc (hr (some ⟨p, 0, none⟩)) rfl).snoc (hr (some ⟨q, 0, none⟩)) rfl).snoc (hr (some ⟨r, 0, none⟩)) rfl, row_blokO h⟩
set_option maxHeartbeats 4000000 in
set_option maxRecDepth 100000 in
/-- The page's example. -/
theorem live30_any (w : World) (ht : TurnC w) : Gives Tryz.prog 18 #[] w (.bool true) := by
  obtain ⟨b, hb⟩ : ∃ b, b = w.heap.size := ⟨_, rfl⟩
  obtain ⟨W5, hW5⟩ : ∃ W5, W5 = ((((((w.alloc (.cells #[] 27)).alloc (.cells #[] 27)).alloc (.cells #[] 27)).alloc (.cells #[.slice (some ⟨b, 0, none⟩) 0 0, .slice (some ⟨b + 1, 0, none⟩) 0 0, .slice (some ⟨b + 1 + 1, 0, none⟩) 0 0] 22)).alloc (.cells #[.int .i64 3, .slice (some ⟨b + 1 + 1 + 1, 0, none⟩) 3 3, .slice none 0 0, .slice none 0 0, .slice none 0 0, .slice none 0 0] 39)).alloc (.cells #[.int .i64 10, .slice none 0 0, .int .i64 100, .slice none 0 0, .int .i64 1, .slice none 0 0] 58)) := ⟨_, rfl⟩
  have HG5 : Hid (Grew w W5) := Lib.hid (by rw [hW5]; exact ((((((Grew.refl w).alloc _).alloc _).alloc _).alloc _).alloc _).alloc _)
  have HBs : Hid (Blok W5 (b + 1 + 1 + 1) 22 #[.slice (some ⟨b, 0, none⟩) 0 0, .slice (some ⟨b + 1, 0, none⟩) 0 0, .slice (some ⟨b + 1 + 1, 0, none⟩) 0 0]) := Lib.hid (by rw [hW5]; exact ((Blok.new _ _ _ _ (by simp [hb])).alloc _).alloc _)
  have HBn : Hid (Blok W5 (b + 1 + 1 + 1 + 1) 39 (nmC liveX (some ⟨b + 1 + 1 + 1, 0, none⟩) 3 none 0 none 0 none 0 none 0)) := Lib.hid (by rw [hW5]; exact (Blok.new _ _ _ _ (by simp [hb])).alloc _)
  have HBt : Hid (Blok W5 (b + 1 + 1 + 1 + 1 + 1) 58 #[.int .i64 10, .slice none 0 0, .int .i64 100, .slice none 0 0, .int .i64 1, .slice none 0 0]) := Lib.hid (by rw [hW5]; exact Blok.new _ _ _ _ (by simp [hb]))
  have hK := kcost_of liveL (by decide) live_lit liveX (fun l hl => by simp only [liveX, List.mem_cons, List.not_mem_nil, or_false] at hl; rcases hl with rfl | rfl | rfl <;> simp) (by decide) (by decide) (some ⟨b + 1 + 1 + 1 + 1 + 1, 0, none⟩) 3 (some ⟨b + 1 + 1 + 1, 0, none⟩) 3 none 0 none 0 none 0 none 0 W5 (live_stats HBt.out) (ht.grew HG5.out) (live_scan HBs.out) ⟨[], ListR.nil, Or.inl rfl⟩
  have HBe : Hid (∀ W, Grew W5 W → Calls Tryz.prog 23 #[.agg #[.int .i64 3, .slice (some ⟨b + 1 + 1 + 1, 0, none⟩) 3 3, .slice none 0 0, .slice none 0 0, .slice none 0 0, .slice none 0 0], .slice (some ⟨b + 1 + 1 + 1 + 1 + 1, 0, none⟩) 3 3] W (OwnI W [1, 2, 0])) := Lib.hid fun W hW => by
    have h := best_any _ _ _ liveX (by decide) (some ⟨b + 1 + 1 + 1, 0, none⟩) 3 none 0 none 0 none 0 none 0 W (hK.grew hW)
    rw [show liveX.scan.length = 3 from rfl, live_best] at h
    exact h
  have HCo : Hid (∀ W S k, 3 ≤ k → Grew W5 W → Row W S (iV [1, 2, 0]) → Gives Tryz.prog 21 #[.agg #[.int .i64 3, .slice (some ⟨b + 1 + 1 + 1, 0, none⟩) 3 3, .slice none 0 0, .slice none 0 0, .slice none 0 0, .slice none 0 0], .slice (some ⟨b + 1 + 1 + 1 + 1 + 1, 0, none⟩) 3 3, .slice S 3 k] W (.int .i64 1111)) := Lib.hid fun W S k hk hW hr => by
    have h := ordCost_any [1, 2, 0] (by decide) S k hk _ _ _ liveX (some ⟨b + 1 + 1 + 1, 0, none⟩) 3 none 0 none 0 none 0 none 0 W hr (hK.grew hW)
    rw [live_cost] at h
    exact h
  have HSm : Hid (∀ W A B c d, Row W A (iV [1, 2, 0]) → Row W B (iV [1, 2, 0]) → Gives Tryz.prog 24 #[.slice A 3 c, .slice B 3 d] W (.bool true)) := Lib.hid fun W A B c d h1 h2 => samelist_any [1, 2, 0] [1, 2, 0] A B c d W h1 h2 (by decide) (by decide)
  have HRn : Hid (∀ W : World, Row (W.alloc (.cells #[.int .i64 1, .int .i64 2, .int .i64 0] 3)) (some ⟨W.heap.size, 0, none⟩) (iV [1, 2, 0])) := Lib.hid fun W => row_new W 3 W.heap.size #[.int .i64 1, .int .i64 2, .int .i64 0] rfl
  clear hK ht HBs HBt
  have HN6 : Hid (∀ W, Grew W5 W → b + 1 + 1 + 1 + 1 < W.heap.size ∧ W.cell? ⟨b + 1 + 1 + 1 + 1, 0, none⟩ = some (.int .i64 3) ∧ W.cell? ⟨b + 1 + 1 + 1 + 1, 1, none⟩ = some (.slice (some ⟨b + 1 + 1 + 1, 0, none⟩) 3 3) ∧ W.cell? ⟨b + 1 + 1 + 1 + 1, 2, none⟩ = some (.slice none 0 0) ∧ W.cell? ⟨b + 1 + 1 + 1 + 1, 3, none⟩ = some (.slice none 0 0) ∧ W.cell? ⟨b + 1 + 1 + 1 + 1, 4, none⟩ = some (.slice none 0 0) ∧ W.cell? ⟨b + 1 + 1 + 1 + 1, 5, none⟩ = some (.slice none 0 0)) := Lib.hid fun W hW => nm6 (HBn.out.grew hW)
  unfold Gives
  go_enter Tryz.func18, Tryz.ntmps18
  go_upto_region 3 with fail
  rw [← hb, ← hW5]
  clear hW5 hb
  obtain ⟨x0, m0, m1, m2, m3, m4, m5⟩ := HN6.out _ (Grew.refl _)
  go_upto_region 4 with (go_at_call 23; (with_reducible refine (HBe.out _ (Grew.refl _)).mono ?_); rintro en w6 ⟨A6, c6, rfl, hg6, ho6⟩; have HG6 := Lib.hid hg6; have HR6 := Lib.hid (own_rowI ho6); have hc6 : 3 ≤ c6 := own_cap' ho6; clear hg6 ho6)
  clear x0 m0 m1 m2 m3 m4 m5
  obtain ⟨x0, m0, m1, m2, m3, m4, m5⟩ := HN6.out _ HG6.out
  go_wp2_with (first | (go_at_call 24; (with_reducible refine (HSm.out _ _ _ _ _ (HR6.out.grew ((Grew.refl _).alloc _)) (HRn.out _)).grows.mono ?_); rintro en w7 ⟨rfl, hg7⟩; have HG7 := Lib.hid (HG6.out.trans (((Grew.refl w6).alloc (.cells #[.int .i64 1, .int .i64 2, .int .i64 0] 3)).trans hg7)); have HR7 := Lib.hid (HR6.out.grew (((Grew.refl w6).alloc (.cells #[.int .i64 1, .int .i64 2, .int .i64 0] 3)).trans hg7)); clear hg7; obtain ⟨y0, n0, n1, n2, n3, n4, n5⟩ := HN6.out _ HG7.out) | (go_at_call 21; (with_reducible refine (HCo.out _ _ _ hc6 HG7.out HR7.out).grows.mono ?_); rintro en w8 ⟨rfl, hg8⟩; have HG8 := Lib.hid (HG7.out.trans hg8); clear hg8))
  go_ret
  exact ⟨rfl, HG5.out.trans HG8.out⟩
end Go.Proofs.YtbglmcebkpkccaaGreatDoor
namespace Go.Proofs.YtbglmcebkpkccaaGreatDoor
open Go.RowKit Go.ChangeShapes Go.WideShapes Go.ChangeAt
section
variable {H : Type} {enc : TypeId × Value → H} {P : Program}
end
end Go.Proofs.YtbglmcebkpkccaaGreatDoor
