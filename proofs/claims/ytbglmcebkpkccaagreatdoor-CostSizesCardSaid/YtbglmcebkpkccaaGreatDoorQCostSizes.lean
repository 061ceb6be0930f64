/- The statement CostSizesSaid: for every input the law returns true, and each argument reads as it did. No condition beyond the row's own. -/
import Derived.Test.YtbglmcebkpkccaaGreatDoorQSz
import Derived.Test.YtbglmcebkpkccaaGreatDoorQKE
import Derived.Test.YtbglmcebkpkccaaGreatDoorQKH
import Derived.Test.YtbglmcebkpkccaaGreatDoorSat2
import Derived.Test.YtbglmcebkpkccaaGreatDoorQNm
import Derived.Test.YtbglmcebkpkccaaGreatDoorQNc
import Derived.Test.YtbglmcebkpkccaaGreatDoorTab
import Derived.Test.YtbglmcebkpkccaaGreatDoorFrame2
import Derived.Test.YtbglmcebkpkccaaGreatDoorTie
import Derived.Test.YtbglmcebkpkccaaGreatDoorCards
import Derived.ProofKit
import Derived.LaidMore
import Derived.Lib.LaidTab
import Derived.Stop.LaidErr
import Derived.Stop.Joined
import Derived.SevenTiedAt

/- Layer 29: for which rows of two tables what must be the same is so, by the document. Condition: no more than a million columns and marks, what is said, and edges, in memory that is there. -/
namespace Go.Proofs.YtbglmcebkpkccaaGreatDoor
open Go.RowKit
attribute [local go_sem] more_cell more_frozen more_more more_setCell more_of_drew more_of_drewN lt_more le_more past_cell past_cell2 past_frozen past_frozen2 past_setCell past_setCell2 mid_cell mid_frozen mid_setCell
attribute [local go_sem] fldC0 fldC1 fldS0
attribute [local go_sem ↓] Go.wp_at_zero Go.wp_at_succ

set_option maxHeartbeats 4000000 in
set_option maxRecDepth 100000 in
theorem rpair_any (l0 : List Sst) (hs : LitSd l0) (x : Nm) (hx : x.edges.length ≤ 1000000) (a b : Int) (A : Option Addr) (k : Nat) (X : Option Addr) (kx : Nat) (B : Option Addr) (j : Nat) (C : Option Addr) (c : Nat) (D : Option Addr) (d : Nat) (E : Option Addr) (e : Nat) (w : World)
    (ra : SstsR (PRow w) A l0) (rn : EdsR (PRow w) B x.edges) :
    Gives Tryz.prog 15 #[.agg (nmC x X kx B j C c D d E e), .slice A l0.length k, .int .i64 a, .int .i64 b] w (.float .f64 (pairK (heldAll l0) x.edges a b)) := by
  obtain ⟨W0, hW0⟩ : ∃ W0, W0 = w.alloc (.cells (nmC x X kx B j C c D d E e) 39) := ⟨_, rfl⟩
  have HG0 : Hid (Grew w W0) := Lib.hid (by rw [hW0]; exact (Grew.refl w).alloc _)
  have HX0 : Hid (Blok W0 w.heap.size 39 (nmC x X kx B j C c D d E e)) := Lib.hid (by rw [hW0]; exact Blok.new _ _ _ _ rfl)
  obtain ⟨x0, m0, m1, m2, m3, m4, m5⟩ := nm6 HX0.out
  have HS : Hid (∀ y : Ed, ∀ W, Grew W0 W → Gives Tryz.prog 47 #[.slice A l0.length k, .int .i64 y.a, .int .i64 y.ac, .int .i64 y.b, .int .i64 y.bc] W (.float .f64 (sameK (heldAll l0) y.a y.ac y.b y.bc))) := Lib.hid fun y W hW => requal_any l0 hs y.a y.ac y.b y.bc A k W (ra.grew (HG0.out.trans hW))
  obtain ⟨fin, hfin⟩ : ∃ fin, (x.edges.filter (edgeHit a b)).map (fun e => sameK (heldAll l0) e.a e.ac e.b e.bc) = fin := ⟨_, rfl⟩
  have HFin := Lib.hid hfin
  have hle : ∀ q ∈ fin, q ≤ 4607182418800017408 := fun q hq => by rw [← hfin] at hq; obtain ⟨y, _, rfl⟩ := List.mem_map.1 hq; exact ofB_le _ _
  have hfl : fin.length ≤ 1000000 := by rw [← hfin, List.length_map]; exact Nat.le_trans (List.length_filter_le _ _) hx
  unfold pairK
  rw [hfin]
  have HAn : Hid (∀ W Z z, Row W Z (fV fin) → Calls Tryz.prog 44 #[.slice Z fin.length z] W fun e w' => e = .returned (.float .f64 (andF fin 4607182418800017408)) ∧ w' = W) := Lib.hid fun W Z z hz => fo_rand_any fin Z z hfl (fun q hq => by have := hle q hq; omega) W hz
  have HRl := Lib.hid (rn.grew HG0.out)
  have HSm : Hid (∀ y : Ed, sameK (heldAll l0) y.a y.ac y.b y.bc = (fun e : Ed => sameK (heldAll l0) e.a e.ac e.b e.bc) y) := Lib.hid fun y => rfl
  have HLx := Lib.hid hx
  clear ra rn hx hs hle hfl hfin
  generalize andF fin 4607182418800017408 = q at *
  generalize hf : (fun e : Ed => sameK (heldAll l0) e.a e.ac e.b e.bc) = f at *
  have HSf : Hid (∀ y : Ed, ∀ W, Grew W0 W → Gives Tryz.prog 47 #[.slice A l0.length k, .int .i64 y.a, .int .i64 y.ac, .int .i64 y.b, .int .i64 y.bc] W (.float .f64 (f y))) := Lib.hid fun y W hW => by rw [← hf]; exact HS.out y W hW
  clear HS HSm hf
  generalize hLl : x.edges = l at *
  have HLl := Lib.hid hLl
  clear hLl
  unfold nmC at hW0 ⊢
  rw [HLl.out] at hW0 ⊢
  unfold Gives
  go_enter Tryz.func15, Tryz.ntmps15
  go_upto_region 1 with fail
  rw [← hW0]
  clear hW0
  go_wp2
  go_loopw [9, 10] (fun v i wr => PrAt W0 f a b l v i wr) (fun _ i _ => l.length - (intOf i).toNat)
  case atStart => exact ⟨0, 0, none, 0, Nat.zero_le _, rfl, rfl, rfl, Grew.refl _, own_none _ _ _ _⟩
  case round =>
    obtain ⟨n, m, A1, c1, hn, hm, rfl, rfl, hg, ho⟩ := hrel
    have HG := Lib.hid hg
    have HO := Lib.hid ho
    have HM := Lib.hid hm
    clear hg ho x0 m0 m1 m2 m3 m4 m5
    obtain ⟨x0, m0, m1, m2, m3, m4, m5⟩ := nm6 (HX0.out.grew HG.out)
    rw [HLl.out] at m2
    by_cases hlt : n < l.length
    · obtain ⟨b1, o1, rfl, hb1, n0, n1, n2, n3⟩ := edsR_at (HRl.out.grew HG.out) hlt
      have hmn : m ≤ n := by rw [hm]; exact Nat.le_trans (List.length_filter_le _ _) (by rw [List.length_take]; omega)
      have HSy : Hid (∀ W, Grew wr W → Gives Tryz.prog 47 #[.slice A l0.length k, .int .i64 l[n].a, .int .i64 l[n].ac, .int .i64 l[n].b, .int .i64 l[n].bc] W (.float .f64 (f l[n]))) := Lib.hid fun W hW => HSf.out l[n] W (HG.out.trans hW)
      have HT1 : Hid (edgeHit a b l[n] = true → (l.take (n + 1)).filter (edgeHit a b) = (l.take n).filter (edgeHit a b) ++ [l[n]]) := Lib.hid fun h => by rw [List.take_succ_eq_append_getElem hlt, List.filter_append]; simp [h]
      have HT0 : Hid (edgeHit a b l[n] = false → (l.take (n + 1)).filter (edgeHit a b) = (l.take n).filter (edgeHit a b)) := Lib.hid fun h => by rw [List.take_succ_eq_append_getElem hlt, List.filter_append]; simp [h]
      clear hm
      generalize hfq : f l[n] = fq at *
      generalize l[n] = y at *
      have HFy : Hid (f y = fq) := Lib.hid hfq
      clear hfq
      generalize hfl : (l.take n).filter (edgeHit a b) = fl at *
      have hx := HLx.out
      go_upto_region 6 with fail
      obtain ⟨w7, hw7⟩ : ∃ w7, w7 = wr.alloc (.cells #[.int .i64 y.a, .int .i64 y.ac, .int .i64 y.b, .int .i64 y.bc] 66) := ⟨_, rfl⟩
      have HB7 : Hid (Blok w7 wr.heap.size 66 #[.int .i64 y.a, .int .i64 y.ac, .int .i64 y.b, .int .i64 y.bc]) := Lib.hid (by rw [hw7]; exact Blok.new _ _ _ _ rfl)
      have HG7 : Hid (Grew wr w7) := Lib.hid (by rw [hw7]; exact (Grew.refl _).alloc _)
      rw [← hw7]
      clear hw7 n0 n1 n2 n3 hb1
      generalize wr.heap.size = g7 at *
      obtain ⟨z0, p0, p1, p2, p3, _, _, _, _⟩ := ed_in HB7.out
      by_cases q1 : y.a = a
      · have h0 : True := trivial
        by_cases q2 : y.b = b
        · have h0 : True := trivial
          have hhit : edgeHit a b y = true := by unfold edgeHit; rw [decide_eq_true q1, decide_eq_true q2]; first | done | rfl
          have e1 : (y.a == a) = true := by simp [q1]
          have e2 : (y.b == b) = true := by simp [q2]
          clear q1
          clear q2
          have HT := Lib.hid (HT1.out hhit)
          clear hhit
          go_wp2_with (first | (go_at_call 47; (with_reducible refine (HSy.out _ HG7.out).grows.mono ?_); rintro en w8 ⟨rfl, hg8⟩; have HG8 := Lib.hid (HG.out.trans (HG7.out.trans hg8)); have HO8 := Lib.hid (own_grewE HO.out (HG7.out.trans hg8)); clear hg8) | (at_builtin; refine wpList_appB rfl _ _ 75 43 1 rfl W0.heap.size (.float .f64 0) 8 Tryz.underlying75 infoFl rfl (by decide) (by decide) _ m (fV (fl.map f)) rfl (own_alloc HO8.out (.cells #[.float .f64 fq] 43)) _ 1 1 [.float .f64 fq] rfl rfl (row_one _ _ _ _ rfl) (by simp [Value.oneCell']) (by omega) (by rw [World.size_alloc]; have := HG8.out.size; omega) ?_; intro A9 c9 w9 ho9 hb9; have HG9 := Lib.hid ((HG8.out.alloc (.cells #[.float .f64 fq] 43)).grown hb9 (own_base HO8.out)); have HO9 := Lib.hid ho9; clear ho9 hb9))
          exact ⟨⟨n + 1, m + 1, A9, c9, by omega, by rw [HT.out, List.length_append, ← HM.out]; rfl, rfl, by go_num, HG9.out, by rw [HT.out, List.map_append]; simp only [fV, List.map_append, List.map_cons, List.map_nil, HFy.out]; exact HO9.out⟩, by simp only [intOf]; omega⟩
        · have h0 : True := trivial
          by_cases q3 : y.a = b
          · have h0 : True := trivial
            by_cases q4 : y.b = a
            · have h0 : True := trivial
              have hhit : edgeHit a b y = true := by unfold edgeHit; rw [decide_eq_true q1, decide_eq_false q2, decide_eq_true q3, decide_eq_true q4]; first | done | rfl
              have e1 : (y.a == a) = true := by simp [q1]
              have e2 : (y.b == b) = false := by simp [q2]
              have e3 : (y.a == b) = true := by simp [q3]
              have e4 : (y.b == a) = true := by simp [q4]
              clear q1
              clear q2
              clear q3
              clear q4
              have HT := Lib.hid (HT1.out hhit)
              clear hhit
              go_wp2_with (first | (go_at_call 47; (with_reducible refine (HSy.out _ HG7.out).grows.mono ?_); rintro en w8 ⟨rfl, hg8⟩; have HG8 := Lib.hid (HG.out.trans (HG7.out.trans hg8)); have HO8 := Lib.hid (own_grewE HO.out (HG7.out.trans hg8)); clear hg8) | (at_builtin; refine wpList_appB rfl _ _ 75 43 1 rfl W0.heap.size (.float .f64 0) 8 Tryz.underlying75 infoFl rfl (by decide) (by decide) _ m (fV (fl.map f)) rfl (own_alloc HO8.out (.cells #[.float .f64 fq] 43)) _ 1 1 [.float .f64 fq] rfl rfl (row_one _ _ _ _ rfl) (by simp [Value.oneCell']) (by omega) (by rw [World.size_alloc]; have := HG8.out.size; omega) ?_; intro A9 c9 w9 ho9 hb9; have HG9 := Lib.hid ((HG8.out.alloc (.cells #[.float .f64 fq] 43)).grown hb9 (own_base HO8.out)); have HO9 := Lib.hid ho9; clear ho9 hb9))
              exact ⟨⟨n + 1, m + 1, A9, c9, by omega, by rw [HT.out, List.length_append, ← HM.out]; rfl, rfl, by go_num, HG9.out, by rw [HT.out, List.map_append]; simp only [fV, List.map_append, List.map_cons, List.map_nil, HFy.out]; exact HO9.out⟩, by simp only [intOf]; omega⟩
            · have h0 : True := trivial
              have hhit : edgeHit a b y = false := by unfold edgeHit; rw [decide_eq_true q1, decide_eq_false q2, decide_eq_true q3, decide_eq_false q4]; first | done | rfl
              have e1 : (y.a == a) = true := by simp [q1]
              have e2 : (y.b == b) = false := by simp [q2]
              have e3 : (y.a == b) = true := by simp [q3]
              have e4 : (y.b == a) = false := by simp [q4]
              clear q1
              clear q2
              clear q3
              clear q4
              have HT := Lib.hid (HT0.out hhit)
              clear hhit
              go_wp2
              exact ⟨⟨n + 1, m, A1, c1, by omega, by rw [HT.out]; exact HM.out, rfl, by go_num, HG.out.trans HG7.out, by rw [HT.out]; exact own_grewE HO.out HG7.out⟩, by simp only [intOf]; omega⟩
          · have h0 : True := trivial
            have hhit : edgeHit a b y = false := by unfold edgeHit; rw [decide_eq_true q1, decide_eq_false q2, decide_eq_false q3]; first | done | rfl
            have e1 : (y.a == a) = true := by simp [q1]
            have e2 : (y.b == b) = false := by simp [q2]
            have e3 : (y.a == b) = false := by simp [q3]
            clear q1
            clear q2
            clear q3
            have HT := Lib.hid (HT0.out hhit)
            clear hhit
            go_wp2
            exact ⟨⟨n + 1, m, A1, c1, by omega, by rw [HT.out]; exact HM.out, rfl, by go_num, HG.out.trans HG7.out, by rw [HT.out]; exact own_grewE HO.out HG7.out⟩, by simp only [intOf]; omega⟩
      · have h0 : True := trivial
        by_cases q3 : y.a = b
        · have h0 : True := trivial
          by_cases q4 : y.b = a
          · have h0 : True := trivial
            have hhit : edgeHit a b y = true := by unfold edgeHit; rw [decide_eq_false q1, decide_eq_true q3, decide_eq_true q4]; first | done | rfl
            have e1 : (y.a == a) = false := by simp [q1]
            have e3 : (y.a == b) = true := by simp [q3]
            have e4 : (y.b == a) = true := by simp [q4]
            clear q1
            clear q3
            clear q4
            have HT := Lib.hid (HT1.out hhit)
            clear hhit
            go_wp2_with (first | (go_at_call 47; (with_reducible refine (HSy.out _ HG7.out).grows.mono ?_); rintro en w8 ⟨rfl, hg8⟩; have HG8 := Lib.hid (HG.out.trans (HG7.out.trans hg8)); have HO8 := Lib.hid (own_grewE HO.out (HG7.out.trans hg8)); clear hg8) | (at_builtin; refine wpList_appB rfl _ _ 75 43 1 rfl W0.heap.size (.float .f64 0) 8 Tryz.underlying75 infoFl rfl (by decide) (by decide) _ m (fV (fl.map f)) rfl (own_alloc HO8.out (.cells #[.float .f64 fq] 43)) _ 1 1 [.float .f64 fq] rfl rfl (row_one _ _ _ _ rfl) (by simp [Value.oneCell']) (by omega) (by rw [World.size_alloc]; have := HG8.out.size; omega) ?_; intro A9 c9 w9 ho9 hb9; have HG9 := Lib.hid ((HG8.out.alloc (.cells #[.float .f64 fq] 43)).grown hb9 (own_base HO8.out)); have HO9 := Lib.hid ho9; clear ho9 hb9))
            exact ⟨⟨n + 1, m + 1, A9, c9, by omega, by rw [HT.out, List.length_append, ← HM.out]; rfl, rfl, by go_num, HG9.out, by rw [HT.out, List.map_append]; simp only [fV, List.map_append, List.map_cons, List.map_nil, HFy.out]; exact HO9.out⟩, by simp only [intOf]; omega⟩
          · have h0 : True := trivial
            have hhit : edgeHit a b y = false := by unfold edgeHit; rw [decide_eq_false q1, decide_eq_true q3, decide_eq_false q4]; first | done | rfl
            have e1 : (y.a == a) = false := by simp [q1]
            have e3 : (y.a == b) = true := by simp [q3]
            have e4 : (y.b == a) = false := by simp [q4]
            clear q1
            clear q3
            clear q4
            have HT := Lib.hid (HT0.out hhit)
            clear hhit
            go_wp2
            exact ⟨⟨n + 1, m, A1, c1, by omega, by rw [HT.out]; exact HM.out, rfl, by go_num, HG.out.trans HG7.out, by rw [HT.out]; exact own_grewE HO.out HG7.out⟩, by simp only [intOf]; omega⟩
        · have h0 : True := trivial
          have hhit : edgeHit a b y = false := by unfold edgeHit; rw [decide_eq_false q1, decide_eq_false q3]; first | done | rfl
          have e1 : (y.a == a) = false := by simp [q1]
          have e3 : (y.a == b) = false := by simp [q3]
          clear q1
          clear q3
          have HT := Lib.hid (HT0.out hhit)
          clear hhit
          go_wp2
          exact ⟨⟨n + 1, m, A1, c1, by omega, by rw [HT.out]; exact HM.out, rfl, by go_num, HG.out.trans HG7.out, by rw [HT.out]; exact own_grewE HO.out HG7.out⟩, by simp only [intOf]; omega⟩
    · obtain rfl : n = l.length := by omega
      rw [List.take_length, HFin.out] at HO
      rw [List.take_length] at HM
      have hmf : m = fin.length := by rw [HM.out, ← HFin.out, List.length_map]
      clear HM hm
      subst hmf
      obtain ⟨A', c', e', hrow⟩ := own_row HO.out
      injection e' with e1 _ _
      subst e1
      have HRow := Lib.hid hrow
      clear hrow HO
      go_wp2_with (go_at_call 44; (with_reducible refine (HAn.out _ _ _ HRow.out).mono ?_); rintro en wz ⟨rfl, hwz⟩; subst hwz)
      go_ret
      exact ⟨rfl, HG0.out.trans HG.out⟩
end Go.Proofs.YtbglmcebkpkccaaGreatDoor

/- Layer 29: how many rows of a table there will be, by the document. Condition: no more than a million columns and marks, what is said, and conditions, in memory that is there. -/
namespace Go.Proofs.YtbglmcebkpkccaaGreatDoor
open Go.RowKit
attribute [local go_sem] more_cell more_frozen more_more more_setCell more_of_drew more_of_drewN lt_more le_more past_cell past_cell2 past_frozen past_frozen2 past_setCell past_setCell2 mid_cell mid_frozen mid_setCell
attribute [local go_sem] fldC0 fldC1 fldS0
attribute [local go_sem ↓] Go.wp_at_zero Go.wp_at_succ

set_option maxHeartbeats 4000000 in
set_option maxRecDepth 100000 in
theorem rscan_any (l0 : List Sst) (hs : LitSd l0) (x : Nm) (hx : ∀ l ∈ x.scan, l.length ≤ 1000000) (t : Int) (A : Option Addr) (k : Nat) (X : Option Addr) (kx : Nat) (B : Option Addr) (j : Nat) (C : Option Addr) (c : Nat) (D : Option Addr) (d : Nat) (E : Option Addr) (e : Nat) (w : World)
    (ra : SstsR (PRow w) A l0) (rn : XllR (PRow w) X x.scan) :
    Gives Tryz.prog 12 #[.agg (nmC x X kx B j C c D d E e), .slice A l0.length k, .int .i64 t] w (.int .i64 (scanK (heldAll l0) x.scan t)) := by
  obtain ⟨W0, hW0⟩ : ∃ W0, W0 = w.alloc (.cells (nmC x X kx B j C c D d E e) 39) := ⟨_, rfl⟩
  have HG0 : Hid (Grew w W0) := Lib.hid (by rw [hW0]; exact (Grew.refl w).alloc _)
  have HX0 : Hid (Blok W0 w.heap.size 39 (nmC x X kx B j C c D d E e)) := Lib.hid (by rw [hW0]; exact Blok.new _ _ _ _ rfl)
  obtain ⟨x0, m0, m1, m2, m3, m4, m5⟩ := nm6 HX0.out
  have hout : (t < 0 ∨ (x.scan.length : Int) ≤ t) → scanK (heldAll l0) x.scan t = 0 := fun h => by unfold scanK; rw [if_neg (by omega)]
  rcases k_cases x.scan.length t with h | ⟨h1, h2⟩ | ⟨i, rfl, hi⟩
  · rw [hout (Or.inl h)]
    clear hout ra rn hx hs
    unfold nmC at *
    unfold Gives
    go_enter Tryz.func12, Tryz.ntmps12
    go_upto_region 1 with fail
    rw [← hW0]
    clear hW0
    go_wp2
    go_ret
    exact ⟨rfl, HG0.out⟩
  · rw [hout (Or.inr h2)]
    have t1 : decide (t < (0 : Int)) = false := decide_eq_false (by omega)
    clear hout ra rn hx hs
    unfold nmC at *
    unfold Gives
    go_enter Tryz.func12, Tryz.ntmps12
    go_upto_region 1 with fail
    rw [← hW0]
    clear hW0
    go_wp2
    go_ret
    exact ⟨rfl, HG0.out⟩
  · obtain ⟨b, o, Y, ky, rfl, hb, hc, rl⟩ := xllR_at (rn.grew HG0.out) hi
    have hll := hx _ (List.getElem_mem hi)
    rw [show scanK (heldAll l0) x.scan i = scaleI (rowsK (heldAll l0) i) (andF (x.scan[i].map (shareK (heldAll l0))) 4607182418800017408) by unfold scanK; rw [if_pos (by omega), Int.toNat_natCast, List.getD_eq_getElem?_getD, List.getElem?_eq_getElem hi]; rfl]
    have h1 : ((i : Nat) : Int) < (x.scan.length : Int) := by omega
    have g1 : decide (x.scan.length ≤ i) = false := decide_eq_false (by omega)
    have g2 : decide ((i : Int) < 0) = false := decide_eq_false (by omega)
    have g3 : decide ((x.scan.length : Int) ≤ (i : Int)) = false := decide_eq_false (by omega)
    have HS : Hid (∀ y ∈ x.scan[i], ∀ Ay ky W, Grew W0 W → ExsR (PRow W) Ay y.l → Gives Tryz.prog 41 #[exV y Ay ky, .slice A l0.length k] W (.float .f64 (shareK (heldAll l0) y))) := Lib.hid fun y _ Ay ky W hW hy => rshare_ex l0 hs A k W (ra.grew (HG0.out.trans hW)) _ y (Nat.lt_succ_self _) Ay ky W (Grew.refl _) hy
    have HRw : Hid (∀ W, Grew W0 W → Calls Tryz.prog 43 #[.slice A l0.length k, .int .i64 i] W (HelkF W (saidK l0 i))) := Lib.hid fun W hW => rsaid_any l0 hs i A k W (ra.grew (HG0.out.trans hW))
    have hrr := saidK_rows l0 i
    have hle := andK_le (x.scan[i].map (shareK (heldAll l0)))
    have HSc : Hid (∀ W, Calls Tryz.prog 42 #[.int .i64 (rowsK (heldAll l0) i), .float .f64 (andF (x.scan[i].map (shareK (heldAll l0))) 4607182418800017408)] W fun e w' => e = .returned (.int .i64 (scaleI (rowsK (heldAll l0) i) (andF (x.scan[i].map (shareK (heldAll l0))) 4607182418800017408))) ∧ w' = W) := Lib.hid fun W => rscale_any _ _ (by omega) W
    have HAn : Hid (∀ W Z z, Row W Z (fV (x.scan[i].map (shareK (heldAll l0)))) → Calls Tryz.prog 44 #[.slice Z x.scan[i].length z] W fun e w' => e = .returned (.float .f64 (andF (x.scan[i].map (shareK (heldAll l0))) 4607182418800017408)) ∧ w' = W) := Lib.hid fun W Z z hz => by
      have := fo_rand_any (x.scan[i].map (shareK (heldAll l0))) Z z (by rw [List.length_map]; exact hll) (fun q hq => by obtain ⟨y, _, rfl⟩ := List.mem_map.1 hq; have := shareK_le (heldAll l0) y; omega) W hz
      rwa [List.length_map] at this
    have HRl := Lib.hid rl
    clear ra rn hx hs hout hle rl
    generalize scaleI (rowsK (heldAll l0) i) (andF (x.scan[i].map (shareK (heldAll l0))) 4607182418800017408) = res at *
    generalize andF (x.scan[i].map (shareK (heldAll l0))) 4607182418800017408 = q at *
    rw [← hrr] at HSc
    clear hrr
    generalize saidK l0 i = sx at *
    generalize x.scan[i] = l at *
    have HC : Hid (∀ W, Grew W0 W → b < W.heap.size ∧ W.cell? ⟨b, o + i, none⟩ = some (.slice Y l.length ky)) := Lib.hid fun W hW => cell_grewK hW hb hc
    generalize shareK (heldAll l0) = f at *
    unfold nmC at hW0 ⊢
    unfold Gives
    go_enter Tryz.func12, Tryz.ntmps12
    go_upto_region 1 with fail
    rw [← hW0]
    clear hW0
    go_wp2
    clear x0 m0 m1 m2 m3 m4 m5 hb hc
    go_loopw [7, 8] (fun v i wr => ScaAt W0 f l v i wr) (fun _ i _ => l.length - (intOf i).toNat)
    case atStart => exact ⟨0, none, 0, Nat.zero_le _, rfl, rfl, Grew.refl _, own_none _ _ _ _⟩
    case round =>
      obtain ⟨n, A1, c1, hn, rfl, rfl, hg, ho⟩ := hrel
      have HG := Lib.hid hg
      have HO := Lib.hid ho
      clear hg ho
      obtain ⟨x0, m0, m1, m2, m3, m4, m5⟩ := nm6 (HX0.out.grew HG.out)
      obtain ⟨hb, hc⟩ := HC.out _ HG.out
      by_cases hlt : n < l.length
      · obtain ⟨b1, o1, P, kp, rfl, rp, h9⟩ := exsR_nine (HRl.out.grew HG.out) hlt
        have HSy : Hid (∀ W, Grew wr W → Gives Tryz.prog 41 #[exV l[n] P kp, .slice A l0.length k] W (.float .f64 (f l[n]))) := Lib.hid fun W hW => HS.out _ (List.getElem_mem hlt) P kp W (HG.out.trans hW) (rp.grew hW)
        have HT : Hid (fV ((l.take (n + 1)).map f) = fV ((l.take n).map f) ++ [.float .f64 (f l[n])]) := Lib.hid (by rw [List.take_succ_eq_append_getElem hlt, List.map_append]; simp [fV])
        obtain ⟨_, n0, n1, n2, n3, n4, n5, n6, n7, n8⟩ := h9
        clear rp
        generalize f l[n] = fq at *
        generalize l[n] = y at *
        unfold exV at HSy
        go_wp2_with (first | (go_at_call 41; (with_reducible refine (HSy.out _ (Grew.refl _)).grows.mono ?_); rintro en w8 ⟨rfl, hg8⟩; have HG8 := Lib.hid (HG.out.trans hg8); have HO8 := Lib.hid (own_grewE HO.out hg8); clear hg8) | (at_builtin; refine wpList_appB rfl _ _ 75 43 1 rfl W0.heap.size (.float .f64 0) 8 Tryz.underlying75 infoFl rfl (by decide) (by decide) _ n (fV ((l.take n).map f)) rfl (own_alloc HO8.out (.cells #[.float .f64 fq] 43)) _ 1 1 [.float .f64 fq] rfl rfl (row_one _ _ _ _ rfl) (by simp [Value.oneCell']) (by omega) (by rw [World.size_alloc]; have := HG8.out.size; omega) ?_; intro A9 c9 w9 ho9 hb9; have HG9 := Lib.hid ((HG8.out.alloc (.cells #[.float .f64 fq] 43)).grown hb9 (own_base HO8.out)); have HO9 := Lib.hid ho9; clear ho9 hb9))
        exact ⟨⟨n + 1, A9, c9, by omega, rfl, by go_num, HG9.out, by rw [HT.out]; exact HO9.out⟩, by simp only [intOf]; omega⟩
      · obtain rfl : n = l.length := by omega
        rw [List.take_length] at HO
        obtain ⟨A', c', e', hrow⟩ := own_row HO.out
        injection e' with e1 _ _
        subst e1
        have HRow := Lib.hid hrow
        clear hrow HO
        go_wp2_with (first | (go_at_call 43; (with_reducible refine (HRw.out _ HG.out).mono ?_); rintro en w8 ⟨Bs, js, rfl, hg8, _⟩; have HG := Lib.hid (HG.out.trans hg8); have HRow := Lib.hid (HRow.out.grew hg8); clear hg8) | (go_at_call 44; (with_reducible refine (HAn.out _ _ _ HRow.out).mono ?_); rintro en wz ⟨rfl, hwz⟩; subst hwz) | (go_at_call 42; (with_reducible refine (HSc.out _).mono ?_); rintro en wz ⟨rfl, hwz⟩; subst hwz))
        go_ret
        exact ⟨rfl, HG0.out.trans HG.out⟩
end Go.Proofs.YtbglmcebkpkccaaGreatDoor

/- Layer 29: how many rows the join of tables will have, by the document. Condition: no more than a thousand tables; what is said, conditions and edges in memory that is there. -/
namespace Go.Proofs.YtbglmcebkpkccaaGreatDoor
open Go.RowKit
attribute [local go_sem] more_cell more_frozen more_more more_setCell more_of_drew more_of_drewN lt_more le_more past_cell past_cell2 past_frozen past_frozen2 past_setCell past_setCell2 mid_cell mid_frozen mid_setCell
attribute [local go_sem] fldC0 fldC1 fldS0
attribute [local go_sem ↓] Go.wp_at_zero Go.wp_at_succ

/-- What is gathered of tables, and of pairs of them, by the document. -/
def RzAt (w : World) (sc : Int → Int) (f : Int → Int → Nat) (N : Nat) (set : List Int) (v1 v2 i : Value) (wr : World) : Prop :=
  ∃ (n m1 m2 : Nat) (A1 : Option Addr) (c1 : Nat) (A2 : Option Addr) (c2 : Nat), n ≤ N ∧ m1 = (tabsK n set).length ∧ m2 = (prsTo f N set n).length ∧ i = .int .i64 n ∧ v1 = .slice A1 m1 c1 ∧ v2 = .slice A2 m2 c2 ∧ Grew w wr ∧
    wr.ownsRow w.heap.size 3 1 (.slice A1 m1 c1) m1 (iV ((tabsK n set).map sc)) ∧ wr.ownsRow w.heap.size 43 1 (.slice A2 m2 c2) m2 (fV (prsTo f N set n))
/-- The pairs of one table. -/
def RzIn (w : World) (m0 : Nat) (L : List Nat) (f : Int → Nat) (n N : Nat) (set : List Int) (A1 : Option Addr) (m1 c1 : Nat) (xs : List Value) (v2 i : Value) (wr : World) : Prop :=
  ∃ (q m : Nat) (A2 : Option Addr) (c2 : Nat), n + 1 ≤ q ∧ q ≤ N ∧ m = m0 + (tabsF (n + 1) q set).length ∧ i = .int .i64 q ∧ v2 = .slice A2 m c2 ∧ Grew w wr ∧
    wr.ownsRow w.heap.size 3 1 (.slice A1 m1 c1) m1 xs ∧ wr.ownsRow w.heap.size 43 1 (.slice A2 m c2) m (fV (L ++ (tabsF (n + 1) q set).map f))
theorem tabsK_succ (n : Nat) (set : List Int) : tabsK (n + 1) set = tabsK n set ++ if (n : Int) ∈ set then [(n : Int)] else [] := by
  have h := tabsF_snoc (Nat.zero_le n) set
  rwa [tabsF_zero, tabsF_zero] at h
set_option maxHeartbeats 8000000 in
set_option maxRecDepth 100000 in
theorem refSize_any (l : List Sst) (hm : LitSd l) (x : Nm) (hx : ∀ l ∈ x.scan, l.length ≤ 1000000) (hx1 : x.scan.length ≤ 1000) (hx2 : x.edges.length ≤ 1000000) (set : List Int) (hs : set.length ≤ 1000) (A : Option Addr) (k : Nat) (X : Option Addr) (kx : Nat) (B : Option Addr) (j : Nat) (C : Option Addr) (c : Nat) (D : Option Addr) (d : Nat) (E : Option Addr) (e : Nat) (S : Option Addr) (ks : Nat) (w : World)
    (ra : SstsR (PRow w) A l) (rn : XllR (PRow w) X x.scan) (re : EdsR (PRow w) B x.edges) (rs : Row w S (iV set)) :
    Gives Tryz.prog 17 #[.agg (nmC x X kx B j C c D d E e), .slice A l.length k, .slice S set.length ks] w (.int .i64 (sizeK (heldAll l) x.scan x.edges set)) := by
  have HSc : Hid (∀ a W, Grew w W → Gives Tryz.prog 12 #[.agg (nmC x X kx B j C c D d E e), .slice A l.length k, .int .i64 a] W (.int .i64 (scanK (heldAll l) x.scan a))) := Lib.hid fun a W hW => rscan_any l hm x hx a A k X kx B j C c D d E e W (ra.grew hW) (rn.grew hW)
  have HPr : Hid (∀ a b W, Grew w W → Gives Tryz.prog 15 #[.agg (nmC x X kx B j C c D d E e), .slice A l.length k, .int .i64 a, .int .i64 b] W (.float .f64 (pairK (heldAll l) x.edges a b))) := Lib.hid fun a b W hW => rpair_any l hm x hx2 a b A k X kx B j C c D d E e W (ra.grew hW) (re.grew hW)
  have HHa : Hid (∀ (t : Int) W, Grew w W → Gives Tryz.prog 56 #[.slice S set.length ks, .int .i64 t] W (.bool (decide (t ∈ set)))) := Lib.hid fun t W hW => rhas21_any set t S ks (by omega) W (rs.grew hW)
  obtain ⟨W0, hW0⟩ : ∃ W0, W0 = w.alloc (.cells (nmC x X kx B j C c D d E e) 39) := ⟨_, rfl⟩
  have HG0 : Hid (Grew w W0) := Lib.hid (by rw [hW0]; exact (Grew.refl w).alloc _)
  have HX0 : Hid (Blok W0 w.heap.size 39 (nmC x X kx B j C c D d E e)) := Lib.hid (by rw [hW0]; exact Blok.new _ _ _ _ rfl)
  obtain ⟨T, hT⟩ : ∃ T, T = tabsK x.scan.length set := ⟨_, rfl⟩
  have hTn : T.length ≤ 1000 := by rw [hT]; exact Nat.le_trans (tabsK_len _ _) hx1
  have hsc : ∀ q ∈ pairsK (pairK (heldAll l) x.edges) T, q ≤ 4607182418800017408 := pairsK_mem (fun a b => andK_le _) T
  have hpl : (pairsK (pairK (heldAll l) x.edges) T).length ≤ 1000000 := Nat.le_trans (pairsK_len _ T) (by have := Nat.mul_le_mul hTn hTn; omega)
  have hle := andK_le (pairsK (pairK (heldAll l) x.edges) T)
  have hres : sizeK (heldAll l) x.scan x.edges set = scaleI (foldM (T.map (scanK (heldAll l) x.scan)) 1) (andF (pairsK (pairK (heldAll l) x.edges) T) 4607182418800017408) := by rw [hT]; rfl
  rw [hres]
  have HMu : Hid (∀ W Z z m, m = T.length → Row W Z (iV (T.map (scanK (heldAll l) x.scan))) → Calls Tryz.prog 57 #[.slice Z m z] W fun e w' => e = .returned (.int .i64 (foldM (T.map (scanK (heldAll l) x.scan)) 1)) ∧ w' = W) := Lib.hid fun W Z z m hm hz => by
    have := rfoldM_any (T.map (scanK (heldAll l) x.scan)) Z z (by rw [List.length_map]; omega) W hz
    rwa [List.length_map, ← hm] at this
  have HAn : Hid (∀ W Z z m, m = (pairsK (pairK (heldAll l) x.edges) T).length → Row W Z (fV (pairsK (pairK (heldAll l) x.edges) T)) → Calls Tryz.prog 44 #[.slice Z m z] W fun e w' => e = .returned (.float .f64 (andF (pairsK (pairK (heldAll l) x.edges) T) 4607182418800017408)) ∧ w' = W) := Lib.hid fun W Z z m hm hz => by
    rw [hm]
    exact fo_rand_any _ Z z hpl (fun q hq => by have := hsc q hq; omega) W hz
  have HSl : Hid (∀ W, Calls Tryz.prog 42 #[.int .i64 (foldM (T.map (scanK (heldAll l) x.scan)) 1), .float .f64 (andF (pairsK (pairK (heldAll l) x.edges) T) 4607182418800017408)] W fun e w' => e = .returned (.int .i64 (scaleI (foldM (T.map (scanK (heldAll l) x.scan)) 1) (andF (pairsK (pairK (heldAll l) x.edges) T) 4607182418800017408))) ∧ w' = W) := Lib.hid fun W => rscale_any _ _ (by omega) W
  clear hsc hpl hle hres
  have HPe : Hid (prsTo (pairK (heldAll l) x.edges) x.scan.length set x.scan.length = pairsK (pairK (heldAll l) x.edges) T) := Lib.hid (by rw [hT]; exact prsTo_all _ _ _)
  have HTe : Hid (tabsK x.scan.length set = T) := Lib.hid hT.symm
  clear hT hm hx hx2 hs ra rn re rs hTn
  generalize scaleI (foldM (T.map (scanK (heldAll l) x.scan)) 1) (andF (pairsK (pairK (heldAll l) x.edges) T) 4607182418800017408) = res at *
  generalize andF (pairsK (pairK (heldAll l) x.edges) T) 4607182418800017408 = qa at *
  generalize foldM (T.map (scanK (heldAll l) x.scan)) 1 = qm at *
  generalize scanK (heldAll l) x.scan = sc at *
  generalize pairK (heldAll l) x.edges = f at *
  have HNx := Lib.hid hx1
  clear hx1
  have HSc0 : Hid (∀ a W, Grew W0 W → Gives Tryz.prog 12 #[.agg (nmC x X kx B j C c D d E e), .slice A l.length k, .int .i64 a] W (.int .i64 (sc a))) := Lib.hid fun a W hW => HSc.out a W (HG0.out.trans hW)
  have HPr0 : Hid (∀ a b W, Grew W0 W → Gives Tryz.prog 15 #[.agg (nmC x X kx B j C c D d E e), .slice A l.length k, .int .i64 a, .int .i64 b] W (.float .f64 (f a b))) := Lib.hid fun a b W hW => HPr.out a b W (HG0.out.trans hW)
  clear HSc HPr
  unfold nmC at HSc0 HPr0 hW0 ⊢
  unfold Gives
  go_enter Tryz.func17, Tryz.ntmps17
  go_upto_region 1 with fail
  rw [← hW0]
  clear hW0
  go_wp2
  go_loopw [7, 8, 9] (fun v1 v2 i wr => RzAt W0 sc f x.scan.length set v1 v2 i wr) (fun _ _ i _ => x.scan.length - (intOf i).toNat)
  case atStart => exact ⟨0, 0, 0, none, 0, none, 0, Nat.zero_le _, by simp [tabsK], by simp [prsTo], rfl, rfl, rfl, Grew.refl _, by simpa [tabsK, iV] using own_none W0 W0.heap.size 3 1, by simpa [prsTo, fV] using own_none W0 W0.heap.size 43 1⟩
  case round =>
    obtain ⟨n, m1, m2, A1, c1, A2, c2, hn, hm1, hm2, rfl, rfl, rfl, hg, ho1, ho2⟩ := hrel
    have HG := Lib.hid hg
    have HO1 := Lib.hid ho1
    have HO2 := Lib.hid ho2
    have hNx := HNx.out
    have hmb1 : m1 ≤ 1000 := by rw [hm1]; exact Nat.le_trans (tabsK_len _ _) (by omega)
    have hmb2 : m2 ≤ 1000000 := by rw [hm2]; exact Nat.le_trans (prsTo_len f x.scan.length set n) (by have := Nat.mul_le_mul hNx (Nat.le_trans hn hNx); omega)
    have HM1 := Lib.hid hm1
    have HM2 := Lib.hid hm2
    clear hg ho1 ho2 hm1 hm2 hNx
    obtain ⟨x0, m0, m1', m2', m3, m4, m5⟩ := nm6 (HX0.out.grew HG.out)
    by_cases hlt : n < x.scan.length
    · by_cases hin : (n : Int) ∈ set
      · have HHn : Hid (∀ W, Grew w W → Gives Tryz.prog 56 #[.slice S set.length ks, .int .i64 n] W (.bool true)) := Lib.hid fun W hW => by have := HHa.out n W hW; rwa [decide_eq_true hin] at this
        have HT1 : Hid (tabsK (n + 1) set = tabsK n set ++ [(n : Int)]) := Lib.hid (by rw [tabsK_succ, if_pos hin])
        have HT2 : Hid (prsTo f x.scan.length set (n + 1) = prsTo f x.scan.length set n ++ (tabsF (n + 1) x.scan.length set).map (f n)) := Lib.hid (by rw [prsTo, if_pos hin])
        have HTs : Hid (iV ((tabsK (n + 1) set).map sc) = iV ((tabsK n set).map sc) ++ [.int .i64 (sc n)]) := Lib.hid (by rw [HT1.out, List.map_append]; simp [iV])
        have HMs : Hid (m1 + 1 = (tabsK (n + 1) set).length) := Lib.hid (by rw [HT1.out, List.length_append, ← HM1.out]; rfl)
        have HSa : Hid (∀ W, Grew W0 W → Gives Tryz.prog 12 #[.agg #[.int .i64 x.core, .slice X x.scan.length kx, .slice B x.edges.length j, .slice C x.rest.length c, .slice D x.late.length d, .slice E x.wh.length e], .slice A l.length k, .int .i64 n] W (.int .i64 (sc n))) := Lib.hid fun W hW => HSc0.out n W hW
        have HPa : Hid (∀ (q : Nat) W, Grew W0 W → Gives Tryz.prog 15 #[.agg #[.int .i64 x.core, .slice X x.scan.length kx, .slice B x.edges.length j, .slice C x.rest.length c, .slice D x.late.length d, .slice E x.wh.length e], .slice A l.length k, .int .i64 n, .int .i64 q] W (.float .f64 (f n q))) := Lib.hid fun q W hW => HPr0.out n q W hW
        clear hin
        generalize hfa : f n = fa at *
        generalize sc n = sa at *
        have hnx : n + 1 ≤ 1000 := by have := HNx.out; omega
        go_upto_region 7 with (go_at_call 56; (with_reducible refine (HHn.out _ (HG0.out.trans HG.out)).grows.mono ?_); rintro en w7 ⟨rfl, hg7⟩; have HG7 := Lib.hid (HG.out.trans hg7); have HO17 := Lib.hid (own_grewE HO1.out hg7); have HO27 := Lib.hid (own_grewE HO2.out hg7); clear hg7)
        clear x0 m0 m1' m2' m3 m4 m5
        obtain ⟨x0, m0, m1', m2', m3, m4, m5⟩ := nm6 (HX0.out.grew HG7.out)
        go_wp2_with (first | (go_at_call 12; (with_reducible refine (HSa.out _ HG7.out).grows.mono ?_); rintro en w8 ⟨rfl, hg8⟩; have HG8 := Lib.hid (HG7.out.trans hg8); have HO18 := Lib.hid (own_grewE HO17.out hg8); have HO28 := Lib.hid (own_grewE HO27.out hg8); clear hg8) | (at_builtin; refine wpList_appB rfl _ _ 31 3 1 rfl W0.heap.size (.int .i64 0) 8 Tryz.underlying31 infoI rfl (by decide) (by decide) _ m1 (iV ((tabsK n set).map sc)) rfl (own_alloc HO18.out (.cells #[.int .i64 sa] 3)) _ 1 1 [.int .i64 sa] rfl rfl (row_one _ _ _ _ rfl) (by simp [Value.oneCell']) (by omega) (by rw [World.size_alloc]; have := HG8.out.size; omega) ?_; intro A9 c9 w9 ho9 hb9; rw [← HTs.out] at ho9; have HG9 := Lib.hid ((HG8.out.alloc (.cells #[.int .i64 sa] 3)).grown hb9 (own_base HO18.out)); have HO19 := Lib.hid ho9; have HO29 := Lib.hid (own_grown (own_alloc HO28.out _) hb9 (own_apart (own_alloc HO28.out (.cells #[.int .i64 sa] 3)) (own_alloc HO18.out (.cells #[.int .i64 sa] 3)) (by decide))); clear ho9 hb9))
        clear x0 m0 m1' m2' m3 m4 m5 HO1 HO2 HO17 HO27 HO18 HO28 HG7 HG8 HHn HSa HG
        go_loopw [8, 10] (fun v2 i wr => RzIn W0 m2 (prsTo f x.scan.length set n) fa n x.scan.length set A9 (m1 + 1) c9 (iV ((tabsK (n + 1) set).map sc)) v2 i wr) (fun _ i _ => x.scan.length - (intOf i).toNat)
        case atStart => exact ⟨n + 1, m2, A2, c2, Nat.le_refl _, by omega, by simp [tabsF], by go_num, rfl, HG9.out, HO19.out, by simpa [tabsF] using HO29.out⟩
        case round =>
          obtain ⟨q, m', A3, c3, hq0, hq, hm', rfl, rfl, hg, ho1, ho2⟩ := hrel
          have HG := Lib.hid hg
          have HP1' := Lib.hid ho1
          have HP2' := Lib.hid ho2
          have hml : m' ≤ 2000000 := by rw [hm']; have := tabsF_len (n + 1) q set; have := HNx.out; omega
          have HM' := Lib.hid hm'
          clear hg ho1 ho2 HO19 HO29 HG9 hm'
          obtain ⟨x0, m0, m1', m2', m3, m4, m5⟩ := nm6 (HX0.out.grew HG.out)
          by_cases hlt2 : q < x.scan.length
          · have hqx : q + 1 ≤ 1000 := by have := HNx.out; omega
            by_cases hin2 : (q : Int) ∈ set
            · have HHq : Hid (∀ W, Grew w W → Gives Tryz.prog 56 #[.slice S set.length ks, .int .i64 q] W (.bool true)) := Lib.hid fun W hW => by have := HHa.out q W hW; rwa [decide_eq_true hin2] at this
              have HF1 : Hid (tabsF (n + 1) (q + 1) set = tabsF (n + 1) q set ++ [(q : Int)]) := Lib.hid (by rw [tabsF_snoc hq0, if_pos hin2])
              have HTs2 : Hid (fV (prsTo f x.scan.length set n ++ (tabsF (n + 1) (q + 1) set).map fa) = fV (prsTo f x.scan.length set n ++ (tabsF (n + 1) q set).map fa) ++ [.float .f64 (fa q)]) := Lib.hid (by rw [HF1.out, List.map_append, ← List.append_assoc]; simp [fV])
              have HMq : Hid (m' + 1 = m2 + (tabsF (n + 1) (q + 1) set).length) := Lib.hid (by rw [HF1.out, List.length_append, HM'.out]; rfl)
              have HPb : Hid (∀ W, Grew W0 W → Gives Tryz.prog 15 #[.agg #[.int .i64 x.core, .slice X x.scan.length kx, .slice B x.edges.length j, .slice C x.rest.length c, .slice D x.late.length d, .slice E x.wh.length e], .slice A l.length k, .int .i64 n, .int .i64 q] W (.float .f64 (fa q))) := Lib.hid fun W hW => HPa.out q W hW
              clear hin2
              generalize fa q = fq at *
              go_upto_region 12 with (go_at_call 56; (with_reducible refine (HHq.out _ (HG0.out.trans HG.out)).grows.mono ?_); rintro en w7 ⟨rfl, hg7⟩; have HG7 := Lib.hid (HG.out.trans hg7); have HO17 := Lib.hid (own_grewE HP1'.out hg7); have HO27 := Lib.hid (own_grewE HP2'.out hg7); clear hg7)
              clear x0 m0 m1' m2' m3 m4 m5
              obtain ⟨x0, m0, m1', m2', m3, m4, m5⟩ := nm6 (HX0.out.grew HG7.out)
              go_wp2_with (first | (go_at_call 15; (with_reducible refine (HPb.out _ HG7.out).grows.mono ?_); rintro en w8 ⟨rfl, hg8⟩; have HG8 := Lib.hid (HG7.out.trans hg8); have HO18 := Lib.hid (own_grewE HO17.out hg8); have HO28 := Lib.hid (own_grewE HO27.out hg8); clear hg8) | (at_builtin; refine wpList_appB rfl _ _ 75 43 1 rfl W0.heap.size (.float .f64 0) 8 Tryz.underlying75 infoFl rfl (by decide) (by decide) _ m' (fV (prsTo f x.scan.length set n ++ (tabsF (n + 1) q set).map fa)) rfl (own_alloc HO28.out (.cells #[.float .f64 fq] 43)) _ 1 1 [.float .f64 fq] rfl rfl (row_one _ _ _ _ rfl) (by simp [Value.oneCell']) (by omega) (by rw [World.size_alloc]; have := HG8.out.size; omega) ?_; intro A9' c9' w9' ho9 hb9; rw [← HTs2.out] at ho9; have HG9' := Lib.hid ((HG8.out.alloc (.cells #[.float .f64 fq] 43)).grown hb9 (own_base HO28.out)); have HO29' := Lib.hid ho9; have HO19' := Lib.hid (own_grown (own_alloc HO18.out _) hb9 (own_apart (own_alloc HO18.out (.cells #[.float .f64 fq] 43)) (own_alloc HO28.out (.cells #[.float .f64 fq] 43)) (by decide))); clear ho9 hb9))
              exact ⟨⟨q + 1, m' + 1, A9', c9', by omega, by omega, HMq.out, by go_num, rfl, HG9'.out, HO19'.out, HO29'.out⟩, by simp only [intOf]; omega⟩
            · have HHq : Hid (∀ W, Grew w W → Gives Tryz.prog 56 #[.slice S set.length ks, .int .i64 q] W (.bool false)) := Lib.hid fun W hW => by have := HHa.out q W hW; rwa [decide_eq_false hin2] at this
              have HF1 : Hid (tabsF (n + 1) (q + 1) set = tabsF (n + 1) q set) := Lib.hid (by rw [tabsF_snoc hq0, if_neg hin2, List.append_nil])
              clear hin2
              go_wp2_with (go_at_call 56; (with_reducible refine (HHq.out _ (HG0.out.trans HG.out)).grows.mono ?_); rintro en w7 ⟨rfl, hg7⟩; have HG7 := Lib.hid (HG.out.trans hg7); have HO17 := Lib.hid (own_grewE HP1'.out hg7); have HO27 := Lib.hid (own_grewE HP2'.out hg7); clear hg7)
              exact ⟨⟨q + 1, m', A3, c3, by omega, by omega, by rw [HF1.out]; exact HM'.out, by go_num, rfl, HG7.out, HO17.out, by rw [HF1.out]; exact HO27.out⟩, by simp only [intOf]; omega⟩
          · obtain rfl : q = x.scan.length := by omega
            rw [← HT2.out] at HP2'
            have HMf : Hid (m' = (prsTo f x.scan.length set (n + 1)).length) := Lib.hid (by rw [HT2.out, List.length_append, List.length_map, ← HM2.out]; exact HM'.out)
            clear hq hq0
            go_wp2
            exact ⟨⟨n + 1, m1 + 1, m', A9, c9, A3, c3, by omega, HMs.out, HMf.out, by go_num, rfl, rfl, HG.out, HP1'.out, HP2'.out⟩, by simp only [intOf]; omega⟩
      · have HHn : Hid (∀ W, Grew w W → Gives Tryz.prog 56 #[.slice S set.length ks, .int .i64 n] W (.bool false)) := Lib.hid fun W hW => by have := HHa.out n W hW; rwa [decide_eq_false hin] at this
        have HT1 : Hid (tabsK (n + 1) set = tabsK n set) := Lib.hid (by rw [tabsK_succ, if_neg hin, List.append_nil])
        have HT2 : Hid (prsTo f x.scan.length set (n + 1) = prsTo f x.scan.length set n) := Lib.hid (by rw [prsTo, if_neg hin, List.append_nil])
        have hnx : n + 1 ≤ 1000 := by have := HNx.out; omega
        clear hin
        go_wp2_with (go_at_call 56; (with_reducible refine (HHn.out _ (HG0.out.trans HG.out)).grows.mono ?_); rintro en w7 ⟨rfl, hg7⟩; have HG7 := Lib.hid (HG.out.trans hg7); have HO17 := Lib.hid (own_grewE HO1.out hg7); have HO27 := Lib.hid (own_grewE HO2.out hg7); clear hg7)
        exact ⟨⟨n + 1, m1, m2, A1, c1, A2, c2, by omega, by rw [HT1.out]; exact HM1.out, by rw [HT2.out]; exact HM2.out, by go_num, rfl, rfl, HG7.out, by rw [HT1.out]; exact HO17.out, by rw [HT2.out]; exact HO27.out⟩, by simp only [intOf]; omega⟩
    · obtain rfl : n = x.scan.length := by omega
      rw [HTe.out] at HO1 HM1
      rw [HPe.out] at HO2 HM2
      obtain ⟨A1', c1', e1', hr1⟩ := own_row HO1.out
      injection e1' with e1' _ _
      subst e1'
      obtain ⟨A2', c2'', e2', hr2⟩ := own_row HO2.out
      injection e2' with e2' _ _
      subst e2'
      have HR1 := Lib.hid hr1
      have HR2 := Lib.hid hr2
      clear hr1 hr2 HO1 HO2
      go_wp2_with (first | (go_at_call 57; (with_reducible refine (HMu.out _ _ _ _ HM1.out HR1.out).mono ?_); rintro en wz ⟨rfl, hwz⟩; subst hwz) | (go_at_call 44; (with_reducible refine (HAn.out _ _ _ _ HM2.out HR2.out).mono ?_); rintro en wz ⟨rfl, hwz⟩; subst hwz) | (go_at_call 42; (with_reducible refine (HSl.out _).mono ?_); rintro en wz ⟨rfl, hwz⟩; subst hwz))
      go_ret
      exact ⟨rfl, HG0.out.trans HG.out⟩
end Go.Proofs.YtbglmcebkpkccaaGreatDoor

/- Layer 29: the law of how many rows tables may leave. Condition: a query, what is said of tables, and a set in memory that is there; the turned signs as they are laid. -/
namespace Go.Proofs.YtbglmcebkpkccaaGreatDoor
open Go.RowKit
attribute [local go_sem] more_cell more_frozen more_more more_setCell more_of_drew more_of_drewN lt_more le_more past_cell past_cell2 past_frozen past_frozen2 past_setCell past_setCell2 mid_cell mid_frozen mid_setCell
attribute [local go_sem] fldC0 fldC1 fldS0
attribute [local go_sem ↓] Go.wp_at_zero Go.wp_at_succ

/-- A norm whose tables, conditions and edges are few. -/
structure FewX (x : Nm) : Prop where
  tabs : x.scan.length ≤ 12
  scan : ∀ l ∈ x.scan, l.length ≤ 1000000
  edges : x.edges.length ≤ 1000000
theorem fewX_of {sr : List Fr} {wh : Ex} (h : sr.length ≤ 12) (hn : ∀ f ∈ sr, f.on.nodes ≤ 200) (hw : wh.nodes ≤ 200) : FewX (normX sr wh) := by
  have hf := few16 (by omega : sr.length ≤ 1000) hn hw
  refine ⟨?_, fun l hl => (hf.scan l hl).1, hf.edges⟩
  show (nS (coreN sr) _).length ≤ _
  rw [nS_len]
  have := coreN_le sr
  omega
set_option maxHeartbeats 16000000 in
set_option maxRecDepth 100000 in
theorem costSizes_walk (it : List Ex) (sr : List Fr) (wh : Ex) (gr : List Ex) (A : Option Addr) (k : Nat) (B : Option Addr) (j : Nat) (C : Option Addr) (c : Nat) (D : Option Addr) (d : Nat) (l : List Sst) (L : Option Addr) (kl : Nat) (set : List Int) (S : Option Addr) (ks : Nat) (a b : Int) (w : World) (hl : LrgSd l)
    (rA : ExsR (PRow w) A it) (rB : FrsR (PRow w) B sr) (rC : ExsR (PRow w) C wh.l) (rD : ExsR (PRow w) D gr) (ra : SstsR (PRow w) L l) (rs : Row w S (iV set)) (htab : Lib.TabIs Tryz.prog w "trommel/cost.turned" .i64 [0, 1, 2, 5, 6, 3, 4]) :
    Gives Tryz.prog 3 #[.agg (qyC it sr wh gr A k B j C c D d), .slice L l.length kl, .slice S set.length ks, .int .i64 a, .int .i64 b] w (.bool true) := by
  have ht := turn_of htab
  have HMq : Hid (∀ W, Grew w W → Calls Tryz.prog 7 #[.agg (qyC it sr wh gr A k B j C c D d)] W (MuchR W (goodQ ⟨it, sr, wh, gr⟩))) := Lib.hid fun W hW => muchq_any it sr wh gr A k B j C c D d W (rA.grew hW) (rB.grew hW) (rC.grew hW) (rD.grew hW)
  have HM2 : Hid (∀ W, Grew w W → Calls Tryz.prog 8 #[.slice L l.length kl] W (MuchR W (l.length ≤ 16 ∧ FewSd l))) := Lib.hid fun W hW => rmuch29s_any l hl L kl W (ra.grew hW)
  have hlit : FewSd l → LitSd l := fun h s hs => ⟨by have := (h s hs).1; omega, fun c hc => by have := (h s hs).2 c hc; omega⟩
  have HLv : Hid (∀ W, Gives Tryz.prog 9 #[] W (.bool true)) := Lib.hid live29_any
  have HAll : Hid (goodQ ⟨it, sr, wh, gr⟩ → l.length ≤ 16 ∧ FewSd l → set.length ≤ 1000 → FewX (normX sr wh) ∧ (∀ W, Grew w W → Calls Tryz.prog 10 #[.agg (qyC it sr wh gr A k B j C c D d)] W (NormF W (normX sr wh))) ∧
      (∀ (x : Nm), FewX x → ∀ X kx B j C c D d E e (t a b : Int) W, Grew w W → XllR (PRow W) X x.scan → EdsR (PRow W) B x.edges →
        Gives Tryz.prog 11 #[.agg (nmC x X kx B j C c D d E e), .slice L l.length kl, .int .i64 t] W (.int .i64 (scanK (heldAll l) x.scan t)) ∧
        Gives Tryz.prog 12 #[.agg (nmC x X kx B j C c D d E e), .slice L l.length kl, .int .i64 t] W (.int .i64 (scanK (heldAll l) x.scan t)) ∧
        Gives Tryz.prog 14 #[.agg (nmC x X kx B j C c D d E e), .slice L l.length kl, .int .i64 a, .int .i64 b] W (.float .f64 (pairK (heldAll l) x.edges a b)) ∧
        Gives Tryz.prog 15 #[.agg (nmC x X kx B j C c D d E e), .slice L l.length kl, .int .i64 a, .int .i64 b] W (.float .f64 (pairK (heldAll l) x.edges a b)) ∧
        Gives Tryz.prog 16 #[.agg (nmC x X kx B j C c D d E e), .slice L l.length kl, .slice S set.length ks] W (.int .i64 (sizeK (heldAll l) x.scan x.edges set)) ∧
        Gives Tryz.prog 17 #[.agg (nmC x X kx B j C c D d E e), .slice L l.length kl, .slice S set.length ks] W (.int .i64 (sizeK (heldAll l) x.scan x.edges set)))) := Lib.hid fun hg hm hs =>
    ⟨fewX_of hg.src hg.on hg.wh, fun W hW => nrof_any it sr wh gr A k B j C c D d W (Nat.le_trans hg.src (by decide)) hg.on hg.wh (rB.grew hW) (rC.grew hW), fun x hx X kx B j C c D d E e t a b W hW rX rE => by
      have h1 := hlit hm.2
      have h2 : l.length ≤ 1000000 := by have := hm.1; omega
      have h3 : x.scan.length ≤ 1000 := by have := hx.tabs; omega
      exact ⟨costScan_any l h2 h1 x hx.scan t L kl X kx B j C c D d E e W (ra.grew hW) (ht.grew hW) rX, rscan_any l h1 x hx.scan t L kl X kx B j C c D d E e W (ra.grew hW) rX, costPair_any l h2 h1 x hx.edges a b L kl X kx B j C c D d E e W (ra.grew hW) rE, rpair_any l h1 x hx.edges a b L kl X kx B j C c D d E e W (ra.grew hW) rE, costSize_any l h2 h1 x hx.scan h3 hx.edges set hs L kl X kx B j C c D d E e S ks W (ra.grew hW) (ht.grew hW) rX rE (rs.grew hW), refSize_any l h1 x hx.scan h3 hx.edges set hs L kl X kx B j C c D d E e S ks W (ra.grew hW) rX rE (rs.grew hW)⟩⟩
  have HSm : Hid (∀ q W, Calls Tryz.prog 13 #[.float .f64 q, .float .f64 q] W fun e w' => e = .returned (.bool true) ∧ w' = W) := Lib.hid fun q W => by
    have := fsame_any q q W
    simpa using this
  obtain ⟨W0, hW0⟩ : ∃ W0, W0 = w.alloc (.cells (qyC it sr wh gr A k B j C c D d) 29) := ⟨_, rfl⟩
  have HG0 : Hid (Grew w W0) := Lib.hid (by rw [hW0]; exact (Grew.refl w).alloc _)
  have HB0 : Hid (Blok W0 w.heap.size 29 (qyC it sr wh gr A k B j C c D d)) := Lib.hid (by rw [hW0]; exact Blok.new _ _ _ _ rfl)
  obtain ⟨xl, x0, x1, x2, x3, x4, x5, x6, x7, x8, x9, x10, x11⟩ := qy_in HB0.out
  clear rA rB rC rD ra rs ht htab hl hlit
  unfold qyC at HMq hW0 ⊢
  unfold Gives
  go_enter Tryz.func3, Tryz.ntmps3
  go_upto_region 1 with fail
  rw [← hW0]
  clear hW0
  go_wp2_with fail
  refine (HMq.out _ HG0.out).mono ?_
  rintro e w1 ⟨t1, rfl, hg1, hq1⟩
  have HG1 := Lib.hid (HG0.out.trans hg1)
  have HB1 := Lib.hid (HB0.out.grew hg1)
  clear hg1 HMq xl x0 x1 x2 x3 x4 x5 x6 x7 x8 x9 x10 x11
  cases t1
  rotate_left
  · go_wp2_with (go_at_call 9; (with_reducible refine (HLv.out _).grows.mono ?_); rintro e9 w9 ⟨rfl, hg9⟩; have HG9 := Lib.hid hg9; clear hg9)
    go_ret
    exact ⟨rfl, HG1.out.trans HG9.out⟩
  have hgq : goodQ ⟨it, sr, wh, gr⟩ := hq1 rfl
  clear hq1
  go_wp2_with fail
  refine (HM2.out _ HG1.out).mono ?_
  rintro e w2 ⟨t2, rfl, hg2, hm⟩
  have HG2 := Lib.hid (HG1.out.trans hg2)
  have HB2 := Lib.hid (HB1.out.grew hg2)
  clear hg2 HM2
  cases t2
  rotate_left
  · clear hm
    go_wp2_with (go_at_call 9; (with_reducible refine (HLv.out _).grows.mono ?_); rintro e9 w9 ⟨rfl, hg9⟩; have HG9 := Lib.hid hg9; clear hg9)
    go_ret
    exact ⟨rfl, HG2.out.trans HG9.out⟩
  have hm2 := hm rfl
  clear hm
  by_cases hset : 30 < set.length
  · have h30 : decide ((30 : Int) < (set.length : Int)) = true := decide_eq_true (by omega)
    clear hgq hm2
    go_wp2_with (go_at_call 9; (with_reducible refine (HLv.out _).grows.mono ?_); rintro e9 w9 ⟨rfl, hg9⟩; have HG9 := Lib.hid hg9; clear hg9)
    go_ret
    exact ⟨rfl, HG2.out.trans HG9.out⟩
  have h30 : decide ((30 : Int) < (set.length : Int)) = false := decide_eq_false (by omega)
  obtain ⟨hfx, hof, hkx⟩ := HAll.out hgq hm2 (by omega)
  have HOf := Lib.hid hof
  have HK := Lib.hid (hkx _ hfx)
  clear HAll hfx hof hkx hgq hm2
  generalize normX sr wh = x at *
  unfold qyC at HOf
  obtain ⟨xl, x0, x1, x2, x3, x4, x5, x6, x7, x8, x9, x10, x11⟩ := qy_in HB2.out
  go_upto_region 4 with (go_at_call 10; (with_reducible refine (HOf.out _ HG2.out).mono ?_); rintro e2 w3 ⟨A1, k1, B1, j1, C1, c1, D1, d1, E1, f1, rfl, hg3, hm3⟩; unfold nmC)
  obtain ⟨W4, hW4⟩ : ∃ W4, W4 = w3.alloc (.cells (nmC x A1 k1 B1 j1 C1 c1 D1 d1 E1 f1) 39) := ⟨_, rfl⟩
  have hg4 : Grew w3 W4 := by rw [hW4]; exact (Grew.refl _).alloc _
  have HX : Hid (Blok W4 w3.heap.size 39 (nmC x A1 k1 B1 j1 C1 c1 D1 d1 E1 f1)) := Lib.hid (by rw [hW4]; exact Blok.new _ _ _ _ rfl)
  have HG4 : Hid (Grew w W4) := Lib.hid (HG2.out.trans (hg3.trans hg4))
  have HKx := Lib.hid fun t W (hW : Grew W4 W) => HK.out A1 k1 B1 j1 C1 c1 D1 d1 E1 f1 t a b W (HG4.out.trans hW) ((hm3.scan.grew hg4).grew hW) ((hm3.edges.grew hg4).grew hW)
  unfold nmC at hW4
  rw [← hW4]
  clear hW4 hg3 hm3 hg4 HG2 HB2 HOf HK xl x0 x1 x2 x3 x4 x5 x6 x7 x8 x9 x10 x11
  generalize hgx : w3.heap.size = gx at *
  clear hgx
  generalize scanK (heldAll l) x.scan a = qs at *
  generalize pairK (heldAll l) x.edges a b = qp at *
  generalize sizeK (heldAll l) x.scan x.edges set = qz at *
  unfold nmC at HKx
  have H1 := Lib.hid fun W (hW : Grew W4 W) => (HKx.out a W hW).1
  have H2 := Lib.hid fun W (hW : Grew W4 W) => (HKx.out a W hW).2.1
  have H3 := Lib.hid fun W (hW : Grew W4 W) => (HKx.out a W hW).2.2.1
  have H4 := Lib.hid fun W (hW : Grew W4 W) => (HKx.out a W hW).2.2.2.1
  have H5 := Lib.hid fun W (hW : Grew W4 W) => (HKx.out a W hW).2.2.2.2.1
  have H6 := Lib.hid fun W (hW : Grew W4 W) => (HKx.out a W hW).2.2.2.2.2
  clear HKx
  have hS0 : Grew W4 W4.drew := (Grew.refl W4).drew
  refine wp_region_S (fun W => Grew W4 W) (by kernel_rfl) ?_
  refine held_take 0 (v := ?_) rfl (by kernel_rfl) (by kernel_rfl) (by kernel_rfl) (fun _ _ _ h => h) (by rfl) ?_ hS0 ?_
  rotate_left
  · (intro W hW; obtain ⟨x0, m0, m1, m2, m3, m4, m5⟩ := nm6 (HX.out.grew hW); go_simp; with_reducible rfl)
  refine held_take 1 (v := ?_) rfl (by kernel_rfl) (by kernel_rfl) (by kernel_rfl) (fun _ _ _ h => h) (by rfl) ?_ hS0 ?_
  rotate_left
  · (intro W hW; obtain ⟨x0, m0, m1, m2, m3, m4, m5⟩ := nm6 (HX.out.grew hW); go_simp; with_reducible rfl)
  refine held_take 2 (v := ?_) rfl (by kernel_rfl) (by kernel_rfl) (by kernel_rfl) (fun _ _ _ h => h) (by rfl) ?_ hS0 ?_
  rotate_left
  · (intro W hW; obtain ⟨x0, m0, m1, m2, m3, m4, m5⟩ := nm6 (HX.out.grew hW); go_simp; with_reducible rfl)
  refine held_take 4 (v := ?_) rfl (by kernel_rfl) (by kernel_rfl) (by kernel_rfl) (fun _ _ _ h => h) (by rfl) ?_ hS0 ?_
  rotate_left
  · (intro W hW; obtain ⟨x0, m0, m1, m2, m3, m4, m5⟩ := nm6 (HX.out.grew hW); go_simp; with_reducible rfl)
  refine held_take 5 (v := ?_) rfl (by kernel_rfl) (by kernel_rfl) (by kernel_rfl) (fun _ _ _ h => h) (by rfl) ?_ hS0 ?_
  rotate_left
  · (intro W hW; obtain ⟨x0, m0, m1, m2, m3, m4, m5⟩ := nm6 (HX.out.grew hW); go_simp; with_reducible rfl)
  refine held_take 6 (v := ?_) rfl (by kernel_rfl) (by kernel_rfl) (by kernel_rfl) (fun _ _ _ h => h) (by rfl) ?_ hS0 ?_
  rotate_left
  · (intro W hW; obtain ⟨x0, m0, m1, m2, m3, m4, m5⟩ := nm6 (HX.out.grew hW); go_simp; with_reducible rfl)
  refine held_norm (a' := ?_) ?_ ?_
  rotate_left
  · (go_simp; with_reducible rfl)
  refine held_call 3 (by kernel_rfl) rfl (by rfl) (fun K hK => ?_)
  go_simp
  go_wp2_with ((go_at_call 11; (with_reducible refine (H1.out _ hS0).grows.mono ?_); rintro en v1 ⟨rfl, hgn⟩; have hS1 := hS0.trans hgn))
  refine hK.out _ _ hS1 ?_
  clear hK K
  refine held_call 7 (by kernel_rfl) rfl (by rfl) (fun K hK => ?_)
  go_simp
  go_wp2_with ((go_at_call 12; (with_reducible refine (H2.out _ hS1).grows.mono ?_); rintro en v2 ⟨rfl, hgn2⟩; have hS2 := hS1.trans hgn2))
  refine hK.out _ _ hS2 ?_
  clear hK K
  refine held_take 8 (v := ?_) rfl (by kernel_rfl) (by kernel_rfl) (by kernel_rfl) (fun _ _ _ h => h) (by rfl) ?_ hS2 ?_
  rotate_left
  · (intro W hW; go_simp; with_reducible rfl)
  refine held_take 9 (v := ?_) rfl (by kernel_rfl) (by kernel_rfl) (by kernel_rfl) (fun _ _ _ h => h) (by rfl) ?_ hS2 ?_
  rotate_left
  · (intro W hW; go_simp; with_reducible rfl)
  refine held_norm (a' := ?_) ?_ ?_
  rotate_left
  · (go_simp; with_reducible rfl)
  refine held_take 10 (v := ?_) rfl (by kernel_rfl) (by kernel_rfl) (by kernel_rfl) (fun _ _ _ h => h) (by rfl) ?_ hS2 ?_
  rotate_left
  · (intro W hW; obtain ⟨x0, m0, m1, m2, m3, m4, m5⟩ := nm6 (HX.out.grew hW); go_simp; with_reducible rfl)
  refine held_take 11 (v := ?_) rfl (by kernel_rfl) (by kernel_rfl) (by kernel_rfl) (fun _ _ _ h => h) (by rfl) ?_ hS2 ?_
  rotate_left
  · (intro W hW; obtain ⟨x0, m0, m1, m2, m3, m4, m5⟩ := nm6 (HX.out.grew hW); go_simp; with_reducible rfl)
  refine held_take 12 (v := ?_) rfl (by kernel_rfl) (by kernel_rfl) (by kernel_rfl) (fun _ _ _ h => h) (by rfl) ?_ hS2 ?_
  rotate_left
  · (intro W hW; obtain ⟨x0, m0, m1, m2, m3, m4, m5⟩ := nm6 (HX.out.grew hW); go_simp; with_reducible rfl)
  refine held_take 13 (v := ?_) rfl (by kernel_rfl) (by kernel_rfl) (by kernel_rfl) (fun _ _ _ h => h) (by rfl) ?_ hS2 ?_
  rotate_left
  · (intro W hW; obtain ⟨x0, m0, m1, m2, m3, m4, m5⟩ := nm6 (HX.out.grew hW); go_simp; with_reducible rfl)
  refine held_norm (a' := ?_) ?_ ?_
  rotate_left
  · (go_simp; with_reducible rfl)
  refine held_take 15 (v := ?_) rfl (by kernel_rfl) (by kernel_rfl) (by kernel_rfl) (fun _ _ _ h => h) (by rfl) ?_ hS2 ?_
  rotate_left
  · (intro W hW; obtain ⟨x0, m0, m1, m2, m3, m4, m5⟩ := nm6 (HX.out.grew hW); go_simp; with_reducible rfl)
  refine held_take 16 (v := ?_) rfl (by kernel_rfl) (by kernel_rfl) (by kernel_rfl) (fun _ _ _ h => h) (by rfl) ?_ hS2 ?_
  rotate_left
  · (intro W hW; obtain ⟨x0, m0, m1, m2, m3, m4, m5⟩ := nm6 (HX.out.grew hW); go_simp; with_reducible rfl)
  refine held_take 17 (v := ?_) rfl (by kernel_rfl) (by kernel_rfl) (by kernel_rfl) (fun _ _ _ h => h) (by rfl) ?_ hS2 ?_
  rotate_left
  · (intro W hW; obtain ⟨x0, m0, m1, m2, m3, m4, m5⟩ := nm6 (HX.out.grew hW); go_simp; with_reducible rfl)
  refine held_take 18 (v := ?_) rfl (by kernel_rfl) (by kernel_rfl) (by kernel_rfl) (fun _ _ _ h => h) (by rfl) ?_ hS2 ?_
  rotate_left
  · (intro W hW; obtain ⟨x0, m0, m1, m2, m3, m4, m5⟩ := nm6 (HX.out.grew hW); go_simp; with_reducible rfl)
  refine held_norm (a' := ?_) ?_ ?_
  rotate_left
  · (go_simp; with_reducible rfl)
  refine held_call 14 (by kernel_rfl) rfl (by rfl) (fun K hK => ?_)
  go_simp
  go_wp2_with ((go_at_call 14; (with_reducible refine (H3.out _ hS2).grows.mono ?_); rintro en v3 ⟨rfl, hgn3⟩; have hS3 := hS2.trans hgn3))
  refine hK.out _ _ hS3 ?_
  clear hK K
  refine held_call 19 (by kernel_rfl) rfl (by rfl) (fun K hK => ?_)
  go_simp
  go_wp2_with ((go_at_call 15; (with_reducible refine (H4.out _ hS3).grows.mono ?_); rintro en v4 ⟨rfl, hgn4⟩; have hS4 := hS3.trans hgn4))
  refine hK.out _ _ hS4 ?_
  clear hK K
  refine held_call 20 (by kernel_rfl) rfl (by rfl) (fun K hK => ?_)
  go_simp
  go_wp2_with ((go_at_call 13; (with_reducible refine (HSm.out _ _).mono ?_); rintro en wz ⟨rfl, hwz⟩; subst hwz))
  refine hK.out _ _ hS4 ?_
  clear hK K
  refine held_take 21 (v := ?_) rfl (by kernel_rfl) (by kernel_rfl) (by kernel_rfl) (fun _ _ _ h => h) (by rfl) ?_ hS4 ?_
  rotate_left
  · (intro W hW; go_simp; with_reducible rfl)
  refine held_take 22 (v := ?_) rfl (by kernel_rfl) (by kernel_rfl) (by kernel_rfl) (fun _ _ _ h => h) (by rfl) ?_ hS4 ?_
  rotate_left
  · (intro W hW; go_simp; with_reducible rfl)
  refine held_norm (a' := ?_) ?_ ?_
  rotate_left
  · (go_simp; with_reducible rfl)
  refine held_take 23 (v := ?_) rfl (by kernel_rfl) (by kernel_rfl) (by kernel_rfl) (fun _ _ _ h => h) (by rfl) ?_ hS4 ?_
  rotate_left
  · (intro W hW; obtain ⟨x0, m0, m1, m2, m3, m4, m5⟩ := nm6 (HX.out.grew hW); go_simp; with_reducible rfl)
  refine held_take 24 (v := ?_) rfl (by kernel_rfl) (by kernel_rfl) (by kernel_rfl) (fun _ _ _ h => h) (by rfl) ?_ hS4 ?_
  rotate_left
  · (intro W hW; obtain ⟨x0, m0, m1, m2, m3, m4, m5⟩ := nm6 (HX.out.grew hW); go_simp; with_reducible rfl)
  refine held_take 25 (v := ?_) rfl (by kernel_rfl) (by kernel_rfl) (by kernel_rfl) (fun _ _ _ h => h) (by rfl) ?_ hS4 ?_
  rotate_left
  · (intro W hW; obtain ⟨x0, m0, m1, m2, m3, m4, m5⟩ := nm6 (HX.out.grew hW); go_simp; with_reducible rfl)
  refine held_norm (a' := ?_) ?_ ?_
  rotate_left
  · (go_simp; with_reducible rfl)
  refine held_take 27 (v := ?_) rfl (by kernel_rfl) (by kernel_rfl) (by kernel_rfl) (fun _ _ _ h => h) (by rfl) ?_ hS4 ?_
  rotate_left
  · (intro W hW; obtain ⟨x0, m0, m1, m2, m3, m4, m5⟩ := nm6 (HX.out.grew hW); go_simp; with_reducible rfl)
  refine held_take 28 (v := ?_) rfl (by kernel_rfl) (by kernel_rfl) (by kernel_rfl) (fun _ _ _ h => h) (by rfl) ?_ hS4 ?_
  rotate_left
  · (intro W hW; obtain ⟨x0, m0, m1, m2, m3, m4, m5⟩ := nm6 (HX.out.grew hW); go_simp; with_reducible rfl)
  refine held_take 29 (v := ?_) rfl (by kernel_rfl) (by kernel_rfl) (by kernel_rfl) (fun _ _ _ h => h) (by rfl) ?_ hS4 ?_
  rotate_left
  · (intro W hW; obtain ⟨x0, m0, m1, m2, m3, m4, m5⟩ := nm6 (HX.out.grew hW); go_simp; with_reducible rfl)
  refine held_norm (a' := ?_) ?_ ?_
  rotate_left
  · (go_simp; with_reducible rfl)
  refine held_call 26 (by kernel_rfl) rfl (by rfl) (fun K hK => ?_)
  go_simp
  go_wp2_with ((go_at_call 16; (with_reducible refine (H5.out _ hS4).grows.mono ?_); rintro en v5 ⟨rfl, hgn5⟩; have hS5 := hS4.trans hgn5))
  refine hK.out _ _ hS5 ?_
  clear hK K
  refine held_call 30 (by kernel_rfl) rfl (by rfl) (fun K hK => ?_)
  go_simp
  go_wp2_with ((go_at_call 17; (with_reducible refine (H6.out _ hS5).grows.mono ?_); rintro en v6 ⟨rfl, hgn6⟩; have hS6 := hS5.trans hgn6))
  refine hK.out _ _ hS6 ?_
  clear hK K
  refine held_take 31 (v := ?_) rfl (by kernel_rfl) (by kernel_rfl) (by kernel_rfl) (fun _ _ _ h => h) (by rfl) ?_ hS6 ?_
  rotate_left
  · (intro W hW; go_simp; with_reducible rfl)
  refine held_take 32 (v := ?_) rfl (by kernel_rfl) (by kernel_rfl) (by kernel_rfl) (fun _ _ _ h => h) (by rfl) ?_ hS6 ?_
  rotate_left
  · (intro W hW; go_simp; with_reducible rfl)
  refine held_take 33 (v := ?_) rfl (by kernel_rfl) (by kernel_rfl) (by kernel_rfl) (fun _ _ _ h => h) (by rfl) ?_ hS6 ?_
  rotate_left
  · (intro W hW; go_simp; with_reducible rfl)
  refine held_norm (a' := ?_) ?_ ?_
  rotate_left
  · (go_simp; with_reducible rfl)
  refine held_call 34 (by kernel_rfl) rfl (by rfl) (fun K hK => ?_)
  go_simp
  go_wp2_with ((go_at_call 9; (with_reducible refine (HLv.out _).grows.mono ?_); rintro en v7 ⟨rfl, hgn7⟩; have hS7 := hS6.trans hgn7))
  refine hK.out _ _ hS7 ?_
  clear hK K
  refine held_take 35 (v := ?_) rfl (by kernel_rfl) (by kernel_rfl) (by kernel_rfl) (fun _ _ _ h => h) (by rfl) ?_ hS7 ?_
  rotate_left
  · (intro W hW; go_simp; with_reducible rfl)
  refine held_take 36 (v := ?_) rfl (by kernel_rfl) (by kernel_rfl) (by kernel_rfl) (fun _ _ _ h => h) (by rfl) ?_ hS7 ?_
  rotate_left
  · (intro W hW; go_simp; with_reducible rfl)
  refine held_norm (a' := ?_) ?_ ?_
  rotate_left
  · (go_simp; with_reducible rfl)
  refine held_done (by kernel_rfl) ?_
  have HGf := Lib.hid (HG4.out.trans hS7)
  clear hS7 hS6 hS5 hS4 hS3 hS2 hS1 hS0 hgn hgn2 hgn3 hgn4 hgn5 hgn6 hgn7
  go_wp2
  go_ret
  exact ⟨rfl, HGf.out⟩
end Go.Proofs.YtbglmcebkpkccaaGreatDoor

namespace Go.Proofs.YtbglmcebkpkccaaGreatDoor.costSizes
open Go.RowKit Go.ChangeShapes Go.WideShapes Go.ChangeAt Go.Joins

theorem reads : ∀ t ∈ Tryz.f3.params.toList, Tryz.prog.readableRec t = true ∧ t < Tryz.prog.types.size := by
  rw [Tryz.params3]
  intro t ht
  simp only [List.mem_cons, List.not_mem_nil, or_false] at ht
  rcases ht with rfl | rfl | rfl | rfl | rfl
  all_goals exact ⟨by kernel_rfl, of_decide_eq_true (by kernel_rfl)⟩

/-- The door's own heap meets the condition. -/
theorem door_met (os : Os) (args : Array Value) : laidMetH Tryz.prog Rows.costSizesRow.laid ((World.doorLaid Tryz.prog 600 os).forCall (fun _ _ => 0) ⟨#[], args, []⟩).memory :=
  laidMetH_of_parts3 (fuel := 8) (laidMet_of_run' 8 (by kernel_rfl) (by kernel_rfl)) (by kernel_rfl) (by kernel_rfl)
/-- What the condition gives a walk: the table. -/
theorem of_laid {W : World} (h : laidMetH Tryz.prog Rows.costSizesRow.laid W) : Lib.TabIs Tryz.prog W "trommel/cost.turned" .i64 [0, 1, 2, 5, 6, 3, 4] := by
  rw [MakeChecks.laidMetH_plain _ _ _ (by kernel_rfl)] at h
  have h2 : laidMet Tryz.prog (("trommel/cost.turned", Lib.tabData .i64 [0, 1, 2, 5, 6, 3, 4]) :: []) W := h
  exact Lib.tabIs_of_head (g := 3) (t := 157) (e := 3) (n := 7) (by kernel_rfl) (by kernel_rfl) (by kernel_rfl) (by kernel_rfl) (by kernel_rfl) (by kernel_rfl) h2
set_option maxRecDepth 100000 in
theorem lifted (os : Os) (started : os.Started) (H : Type) (enc : TypeId × Value → H) :
    ReturnsInHanded {} Tryz.checked os 3 .any (fun w args => (Rows.costSizesSpec.pre enc Tryz.prog Tryz.f3 [] false w args ∧ laidMetH Tryz.prog Rows.costSizesRow.laid w) ∧ sizedMet enc Tryz.prog Tryz.f3 (OpenSpec.ofChange Rows.costSizesSpec) false w args)
      (Rows.costSizesSpec.post enc Tryz.prog Tryz.f3 false true false false) := by
  refine returnsInHanded_of_change_and (C := Tryz.checked) (X := fun w _ => laidMetH Tryz.prog Rows.costSizesRow.laid w) (fun _ _ _ hh h => h.of_heap hh) own started (by kernel_rfl) Tryz.func3
    (ChangeSpec.witness_shaped (enc := enc) (C := Tryz.checked) (os := os) (X := fun w _ => laidMetH Tryz.prog Rows.costSizesRow.laid w) false (World.doorLaid Tryz.prog 600 os) #[.agg #[.slice none 0 0, .slice none 0 0, .int .i64 0, .string ByteArray.empty, .string ByteArray.empty, .int .i64 0, .int .i64 0, .int .i64 0, .int .i64 0, .string ByteArray.empty, .slice none 0 0, .slice none 0 0], .slice none 0 0, .slice none 0 0, .int .i64 0, .int .i64 0] 8 rfl (World.shaped_of_RefB (by kernel_rfl) (by kernel_rfl)) (by kernel_rfl) (by kernel_rfl) (by kernel_rfl) (door_met os _)) ?_
  intro W base args ds gs before hval0 hW hcnd hsz0 hL _
  have hval : ∀ (j : Nat) t v, Tryz.f3.params[j]? = some t → args[j]? = some v → Value.okWide Tryz.prog W .any base t v := hval0
  have hW' := hW
  obtain ⟨p, q, hA0, hV, hpq, hfz, hnd⟩ := hW
  have hA : DataW.TrodAll enc Tryz.prog W 0 (fun _ => true) true Tryz.f3.params.toList args.toList ds p := hA0
  rw [Tryz.params3] at hA hval
  obtain ⟨v0, vs0, d0, ds0, p0, q0, hargs, rfl, rfl, h0, r0⟩ := trodAll_cons hA
  obtain ⟨v1, vs1, d1, ds1, p1, q1, rfl, rfl, rfl, h1, r1⟩ := trodAll_cons r0
  obtain ⟨v2, vs2, d2, ds2, p2, q2, rfl, rfl, rfl, h2, r2⟩ := trodAll_cons r1
  obtain ⟨v3, vs3, d3, ds3, p3, q3, rfl, rfl, rfl, h3, r3⟩ := trodAll_cons r2
  obtain ⟨v4, vs4, d4, ds4, p4, q4, rfl, rfl, rfl, h4, r4⟩ := trodAll_cons r3
  obtain ⟨rfl, rfl, rfl⟩ := trodAll_nil r4
  obtain rfl : args = #[v0, v1, v2, v3, v4] := by cases args; simp_all
  obtain ⟨rfl, rfl⟩ := trodVars_none hV
  have hz : (DataW.weightsEach Tryz.prog [29, 30, 31, 3, 3] [d0, d1, d2, d3, d4]).all (· ≤ reachBytes) = true := hsz0
  simp only [DataW.weightsEach, List.all_append, List.append_nil, Bool.and_eq_true] at hz
  obtain ⟨zz0, zz1, zz2, zz3, zz4⟩ := hz
  obtain ⟨qcs, q, rfl, zq, qA, qk, qB, qj, qC, qc, qD, qd, eq, rq1, rq2, rq3, rq4⟩ := rd_arg Tryz.underlying29 rd_query (hval 0 29 v0 rfl rfl) h0
  obtain rfl : qcs = qyC q.items q.src q.wh q.group qA qk qB qj qC qc qD qd := Array.ext' (by rw [eq]; rfl)
  have o1 := rdw_arg_slice Tryz.underlying30 rdw_ssts (hval 1 30 v1 rfl rfl) h1 zz1
  obtain ⟨s, ⟨sA, sc, es, cs, rs⟩, ks⟩ := o1
  obtain rfl := List.cons.inj es |>.1
  have o2 := open_islice Tryz.underlying31 Tryz.underlying3 (by kernel_rfl) (hval 2 31 v2 rfl rfl) h2
  obtain ⟨tA, tc, tl, rfl, zt, rt, wt, st⟩ := o2
  obtain ⟨a, rfl, rfl, rfl, wa⟩ := open_int Tryz.underlying3 (hval 3 3 v3 rfl rfl) h3
  obtain ⟨b, rfl, rfl, rfl, wb⟩ := open_int Tryz.underlying3 (hval 4 3 v4 rfl rfl) h4
  have htab := of_laid hL
  refine (costSizes_walk q.items q.src q.wh q.group qA qk qB qj qC qc qD qd s sA sc tl tA tc a b W ks rq1 rq2 rq3 rq4 rs rt htab).mono fun e W' ⟨he, hg⟩ => ?_
  subst he
  exact ⟨_, rfl, law_post hW' rfl rfl Tryz.underlying4 rfl rfl rfl laid_out reads (Grew.below hg)⟩

theorem over : Rows.costSizesRow.holds Tryz.pinned (OpenSpec.ofChange Rows.costSizesSpec) :=
  OpenClaim.holds_of_wide 3 Tryz.f3 rfl rfl rfl rfl rfl rfl rfl ⟨rfl, rfl, rfl, rfl, rfl⟩ rfl rfl rfl rfl rfl (by kernel_rfl) Tryz.func3 (by kernel_rfl)
    (of_decide_eq_true (by kernel_rfl)) (by unfold Func.isWrapper; first | (rw [if_pos (by decide +kernel)]; kernel_rfl) | (rw [if_neg (by decide +kernel)]; exact ⟨rfl, rfl⟩))
    (fun os started H enc _ => lifted os started H enc)

theorem proved : Rows.CostSizesCardSaid :=
  Claim7.holds_tied_plain_at .later [] [.data] true (true, "3803dd5eadb1622ac1cf9f762e3c69a7ba13d79eecce88738eed1112e3ea3d3e") false
    over (fun _ h => by cases h) (by kernel_rfl) (fun _ h => by cases h) costSizes_row_tie rfl ⟨rfl, rfl⟩ (by kernel_rfl) rfl
    (fun f fn hf hfn => by
      obtain rfl : f = 3 := Option.some.inj ((show Tryz.prog.funcNamed "trommel/trommellaw29.CostSizes" = some 3 by kernel_rfl).symm.trans hf) |>.symm
      obtain rfl : fn = Tryz.f3 := (Option.some.inj (Tryz.func3.symm.trans hfn)).symm
      exact ⟨by kernel_rfl, fun j t ht => by
        rw [Tryz.params3] at ht
        have hm : t ∈ [29, 30, 31, 3, 3] := by simpa using Array.mem_of_getElem? ht
        have hall : ([29, 30, 31, 3, 3].all fun u => !Tryz.prog.wantsStandIn u) = true := by kernel_rfl
        exact (show Tryz.prog.wantsStandIn t = false by simpa using List.all_eq_true.1 hall t hm)⟩)
    (by kernel_rfl)

end Go.Proofs.YtbglmcebkpkccaaGreatDoor.costSizes
