/- Layer 29: cost.Size. -/
import Derived.Test.YtbglmcebkpkccaaGreatDoorQKD
import Derived.Test.YtbglmcebkpkccaaGreatDoorQNb
import Derived.Test.YtbglmcebkpkccaaGreatDoorSetMath
import Derived.Lib.OwnBridge
/- Layer 29: how many rows there will be, as functions. No condition. -/
namespace Go.Proofs.YtbglmcebkpkccaaGreatDoor
open Go.RowKit
def scanK (sd : List Sst) (sc : List (List Ex)) (t : Int) : Int := if 0 ≤ t ∧ t < sc.length then scaleI (rowsK sd t) (andF ((sc.getD t.toNat []).map (shareK sd)) 4607182418800017408) else 0
def edgeHit (a b : Int) (e : Ed) : Bool := (decide (e.a = a) && decide (e.b = b)) || (decide (e.a = b) && decide (e.b = a))
def pairK (sd : List Sst) (es : List Ed) (a b : Int) : Nat := andF ((es.filter (edgeHit a b)).map fun e => sameK sd e.a e.ac e.b e.bc) 4607182418800017408
/-- The tables of a set that there are, rising. -/
def tabsK (n : Nat) (set : List Int) : List Int := ((List.range n).map fun (i : Nat) => (i : Int)).filter fun a => decide (a ∈ set)
def pairsK (f : Int → Int → Nat) : List Int → List Nat
  | [] => []
  | a :: l => l.map (f a) ++ pairsK f l
def sizeK (sd : List Sst) (sc : List (List Ex)) (es : List Ed) (set : List Int) : Int :=
  scaleI (foldM ((tabsK sc.length set).map (scanK sd sc)) 1) (andF (pairsK (pairK sd es) (tabsK sc.length set)) 4607182418800017408)
theorem tabsK_set (n : Nat) (set : List Int) : tabsK n set = setI (set.filter fun t => !(decide (t < 0) || decide ((n : Int) ≤ t))) := by
  refine setI_uniq ?_ fun x => ?_
  · unfold tabsK
    have hr : ∀ m, Rising ((List.range m).map fun (i : Nat) => (i : Int)) := fun m => by
      unfold Rising
      rw [List.pairwise_map]
      exact List.pairwise_lt_range.imp fun h => by omega
    exact (hr n).filter _
  · unfold tabsK
    simp only [List.mem_filter, List.mem_map, List.mem_range, decide_eq_true_eq, Bool.not_eq_true', Bool.or_eq_false_iff, decide_eq_false_iff_not]
    constructor
    · rintro ⟨⟨i, hi, rfl⟩, h⟩
      exact ⟨h, by omega, by omega⟩
    · rintro ⟨h, h1, h2⟩
      exact ⟨⟨x.toNat, by omega, by omega⟩, h⟩
theorem nm6 {w : World} {g : Nat} {x : Nm} {A : Option Addr} {k : Nat} {B : Option Addr} {j : Nat} {C : Option Addr} {c : Nat} {D : Option Addr} {d : Nat} {E : Option Addr} {e : Nat} (h : Blok w g 39 (nmC x A k B j C c D d E e)) :
    g < w.heap.size ∧ w.cell? ⟨g, 0, none⟩ = some (.int .i64 x.core) ∧ w.cell? ⟨g, 1, none⟩ = some (.slice A x.scan.length k) ∧ w.cell? ⟨g, 2, none⟩ = some (.slice B x.edges.length j) ∧ w.cell? ⟨g, 3, none⟩ = some (.slice C x.rest.length c) ∧ w.cell? ⟨g, 4, none⟩ = some (.slice D x.late.length d) ∧ w.cell? ⟨g, 5, none⟩ = some (.slice E x.wh.length e) :=
  ⟨h.lt, h.cell 0, h.cell 1, h.cell 2, h.cell 3, h.cell 4, h.cell 5⟩
end Go.Proofs.YtbglmcebkpkccaaGreatDoor
/- Layer 29: how many rows of a table there will be; for which rows of two what must be the same is so: by the program. Condition: what is held, and conditions, in memory that is there; the turned signs as they are laid. -/
namespace Go.Proofs.YtbglmcebkpkccaaGreatDoor
open Go.RowKit
attribute [local go_sem] more_cell more_frozen more_more more_setCell more_of_drew more_of_drewN lt_more le_more past_cell past_cell2 past_frozen past_frozen2 past_setCell past_setCell2 mid_cell mid_frozen mid_setCell
attribute [local go_sem] fldC0 fldC1 fldS0
attribute [local go_sem ↓] Go.wp_at_zero Go.wp_at_succ
theorem infoFl : (Tryz.prog.info? 43).map (fun i => (i.zero, i.size, i.bytes)) = some (some (.float .f64 0), 1, 8) := by kernel_rfl
def fV (l : List Nat) : List Value := l.map (Value.float .f64)
/-- Shares are gathered in a row of one's own. -/
def ScaAt (w : World) (f : Ex → Nat) (l : List Ex) (v i : Value) (wr : World) : Prop := ∃ (j : Nat) (A : Option Addr) (c : Nat), j ≤ l.length ∧ v = .slice A j c ∧ i = .int .i64 j ∧ Grew w wr ∧ wr.ownsRow w.heap.size 43 1 (.slice A j c) j (fV ((l.take j).map f))
set_option maxHeartbeats 4000000 in
set_option maxRecDepth 100000 in
theorem kscan_any (sd : List Sst) (hs : OkSd sd) (x : Nm) (hx : ∀ l ∈ x.scan, l.length ≤ 1000000) (t : Int) (A : Option Addr) (k : Nat) (X : Option Addr) (kx : Nat) (B : Option Addr) (j : Nat) (C : Option Addr) (c : Nat) (D : Option Addr) (d : Nat) (E : Option Addr) (e : Nat) (w : World)
    (ra : SstsR (PRow w) A sd) (ht : TurnC w) (rn : XllR (PRow w) X x.scan) :
    Gives Tryz.prog 40 #[.slice A sd.length k, .agg (nmC x X kx B j C c D d E e), .int .i64 t] w (.int .i64 (scanK sd x.scan t)) := by
  obtain ⟨W0, hW0⟩ : ∃ W0, W0 = w.alloc (.cells (nmC x X kx B j C c D d E e) 39) := ⟨_, rfl⟩
  have HG0 : Hid (Grew w W0) := Lib.hid (by rw [hW0]; exact (Grew.refl w).alloc _)
  have HX0 : Hid (Blok W0 w.heap.size 39 (nmC x X kx B j C c D d E e)) := Lib.hid (by rw [hW0]; exact Blok.new _ _ _ _ rfl)
  obtain ⟨x0, m0, m1, m2, m3, m4, m5⟩ := nm6 HX0.out
  have hout : (t < 0 ∨ (x.scan.length : Int) ≤ t) → scanK sd x.scan t = 0 := fun h => by unfold scanK; rw [if_neg (by omega)]
  rcases k_cases x.scan.length t with h | ⟨h1, h2⟩ | ⟨i, rfl, hi⟩
  · rw [hout (Or.inl h)]
    clear hout ra ht rn hx hs
    unfold nmC at *
    unfold Gives
    go_enter Tryz.func40, Tryz.ntmps40
    go_upto_region 1 with fail
    rw [← hW0]
    clear hW0
    go_wp2
    go_ret
    exact ⟨rfl, HG0.out⟩
  · rw [hout (Or.inr h2)]
    have t1 : decide (t < (0 : Int)) = false := decide_eq_false (by omega)
    clear hout ra ht rn hx hs
    unfold nmC at *
    unfold Gives
    go_enter Tryz.func40, Tryz.ntmps40
    go_upto_region 1 with fail
    rw [← hW0]
    clear hW0
    go_wp2
    go_ret
    exact ⟨rfl, HG0.out⟩
  · obtain ⟨b, o, Y, ky, rfl, hb, hc, rl⟩ := xllR_at (rn.grew HG0.out) hi
    have hll := hx _ (List.getElem_mem hi)
    rw [show scanK sd x.scan i = scaleI (rowsK sd i) (andF (x.scan[i].map (shareK sd)) 4607182418800017408) by unfold scanK; rw [if_pos (by omega), Int.toNat_natCast, List.getD_eq_getElem?_getD, List.getElem?_eq_getElem hi]; rfl]
    have h1 : ((i : Nat) : Int) < (x.scan.length : Int) := by omega
    have g1 : decide (x.scan.length ≤ i) = false := decide_eq_false (by omega)
    have g2 : decide ((i : Int) < 0) = false := decide_eq_false (by omega)
    have g3 : decide ((x.scan.length : Int) ≤ (i : Int)) = false := decide_eq_false (by omega)
    have HS : Hid (∀ y ∈ x.scan[i], ∀ Ay ky W, Grew W0 W → ExsR (PRow W) Ay y.l → Gives Tryz.prog 77 #[.slice A sd.length k, exV y Ay ky] W (.float .f64 (shareK sd y))) := Lib.hid fun y _ Ay ky W hW hy => kshare_ex sd hs A k W (ra.grew (HG0.out.trans hW)) (ht.grew (HG0.out.trans hW)) _ y (Nat.lt_succ_self _) Ay ky W (Grew.refl _) hy
    have HRw : Hid (∀ W, Grew W0 W → Gives Tryz.prog 78 #[.slice A sd.length k, .int .i64 i] W (.int .i64 (rowsK sd i))) := Lib.hid fun W hW => krows_any sd i A k W (ra.grew (HG0.out.trans hW))
    have hle := andK_le (x.scan[i].map (shareK sd))
    have HSc : Hid (∀ W, Calls Tryz.prog 53 #[.int .i64 (rowsK sd i), .float .f64 (andF (x.scan[i].map (shareK sd)) 4607182418800017408)] W fun e w' => e = .returned (.int .i64 (scaleI (rowsK sd i) (andF (x.scan[i].map (shareK sd)) 4607182418800017408))) ∧ w' = W) := Lib.hid fun W => scale_any _ _ (by omega) W
    have HAn : Hid (∀ W Z z, Row W Z (fV (x.scan[i].map (shareK sd))) → Calls Tryz.prog 55 #[.slice Z x.scan[i].length z] W fun e w' => e = .returned (.float .f64 (andF (x.scan[i].map (shareK sd)) 4607182418800017408)) ∧ w' = W) := Lib.hid fun W Z z hz => by
      have := fo_and_any (x.scan[i].map (shareK sd)) Z z (by rw [List.length_map]; exact hll) (fun q hq => by obtain ⟨y, _, rfl⟩ := List.mem_map.1 hq; have := shareK_le sd y; omega) W hz
      rwa [List.length_map] at this
    have HRl := Lib.hid rl
    clear ra ht rn hx hs hout hle rl
    generalize scaleI (rowsK sd i) (andF (x.scan[i].map (shareK sd)) 4607182418800017408) = res at *
    generalize andF (x.scan[i].map (shareK sd)) 4607182418800017408 = q at *
    generalize rowsK sd i = rr at *
    generalize x.scan[i] = l at *
    generalize shareK sd = f at *
    unfold nmC at *
    unfold Gives
    go_enter Tryz.func40, Tryz.ntmps40
    go_upto_region 1 with fail
    rw [← hW0]
    clear hW0
    go_wp2
    go_loopw [7, 25] (fun v i wr => ScaAt W0 f l v i wr) (fun _ i _ => l.length - (intOf i).toNat)
    case atStart => exact ⟨0, none, 0, Nat.zero_le _, rfl, rfl, Grew.refl _, own_none _ _ _ _⟩
    case round =>
      obtain ⟨n, A1, c1, hn, rfl, rfl, hg, ho⟩ := hrel
      have HG := Lib.hid hg
      have HO := Lib.hid ho
      clear hg ho
      by_cases hlt : n < l.length
      · obtain ⟨b1, o1, P, kp, rfl, rp, h9⟩ := exsR_nine (HRl.out.grew HG.out) hlt
        have HSy : Hid (∀ W, Grew wr W → Gives Tryz.prog 77 #[.slice A sd.length k, exV l[n] P kp] W (.float .f64 (f l[n]))) := Lib.hid fun W hW => HS.out _ (List.getElem_mem hlt) P kp W (HG.out.trans hW) (rp.grew hW)
        have HT : Hid (fV ((l.take (n + 1)).map f) = fV ((l.take n).map f) ++ [.float .f64 (f l[n])]) := Lib.hid (by rw [List.take_succ_eq_append_getElem hlt, List.map_append]; simp [fV])
        obtain ⟨_, n0, n1, n2, n3, n4, n5, n6, n7, n8⟩ := h9
        clear rp
        generalize f l[n] = fq at *
        generalize l[n] = y at *
        unfold exV at HSy
        go_upto_region 7 with fail
        obtain ⟨w7, hw7⟩ : ∃ w7, w7 = wr.alloc (.cells (exC y P kp).toArray 27) := ⟨_, rfl⟩
        have HB7 : Hid (Blok w7 wr.heap.size 27 (exC y P kp).toArray) := Lib.hid (by rw [hw7]; exact Blok.new _ _ _ _ rfl)
        have HG7 : Hid (Grew wr w7) := Lib.hid (by rw [hw7]; exact (Grew.refl _).alloc _)
        unfold exC at hw7
        rw [← hw7]
        clear hw7 n0 n1 n2 n3 n4 n5 n6 n7 n8
        generalize wr.heap.size = g7 at *
        obtain ⟨z0, p0, p1, p2, p3, p4, p5, p6, p7, p8⟩ := blok9 HB7.out
        go_wp2_with (first | (go_at_call 77; (with_reducible refine (HSy.out _ HG7.out).grows.mono ?_); rintro en w8 ⟨rfl, hg8⟩; have HG8 := Lib.hid (HG.out.trans (HG7.out.trans hg8)); have HO8 := Lib.hid (own_grewE HO.out (HG7.out.trans hg8)); clear hg8) | (at_builtin; refine wpList_appB rfl _ _ 75 43 1 rfl W0.heap.size (.float .f64 0) 8 Tryz.underlying75 infoFl rfl (by decide) (by decide) _ n (fV ((l.take n).map f)) rfl (own_alloc HO8.out (.cells #[.float .f64 fq] 43)) _ 1 1 [.float .f64 fq] rfl rfl (row_one _ _ _ _ rfl) (by simp [Value.oneCell']) (by omega) (by rw [World.size_alloc]; have := HG8.out.size; omega) ?_; intro A9 c9 w9 ho9 hb9; have HG9 := Lib.hid ((HG8.out.alloc (.cells #[.float .f64 fq] 43)).grown hb9 (own_base HO8.out)); have HO9 := Lib.hid ho9; clear ho9 hb9))
        exact ⟨⟨n + 1, A9, c9, by omega, rfl, by go_num, HG9.out, by rw [HT.out]; exact HO9.out⟩, by simp only [intOf]; omega⟩
      · obtain rfl : n = l.length := by omega
        rw [List.take_length] at HO
        obtain ⟨A', c', e', hrow⟩ := own_row HO.out
        injection e' with e1 _ _
        subst e1
        have HRow := Lib.hid hrow
        clear hrow HO
        go_wp2_with (first | (go_at_call 78; (with_reducible refine (HRw.out _ HG.out).grows.mono ?_); rintro en w8 ⟨rfl, hg8⟩; have HG := Lib.hid (HG.out.trans hg8); have HRow := Lib.hid (HRow.out.grew hg8); clear hg8) | (go_at_call 55; (with_reducible refine (HAn.out _ _ _ HRow.out).mono ?_); rintro en wz ⟨rfl, hwz⟩; subst hwz) | (go_at_call 53; (with_reducible refine (HSc.out _).mono ?_); rintro en wz ⟨rfl, hwz⟩; subst hwz))
        go_ret
        exact ⟨rfl, HG0.out.trans HG.out⟩
end Go.Proofs.YtbglmcebkpkccaaGreatDoor
/- Layer 29: for which rows of two tables what must be the same is so, by the program. Condition: what is held, and edges, in memory that is there. -/
namespace Go.Proofs.YtbglmcebkpkccaaGreatDoor
open Go.RowKit
attribute [local go_sem] more_cell more_frozen more_more more_setCell more_of_drew more_of_drewN lt_more le_more past_cell past_cell2 past_frozen past_frozen2 past_setCell past_setCell2 mid_cell mid_frozen mid_setCell
attribute [local go_sem] fldC0 fldC1 fldS0
attribute [local go_sem ↓] Go.wp_at_zero Go.wp_at_succ
def PrAt (w : World) (f : Ed → Nat) (a b : Int) (l : List Ed) (v i : Value) (wr : World) : Prop := ∃ (j m : Nat) (A : Option Addr) (c : Nat), j ≤ l.length ∧ m = ((l.take j).filter (edgeHit a b)).length ∧ v = .slice A m c ∧ i = .int .i64 j ∧ Grew w wr ∧ wr.ownsRow w.heap.size 43 1 (.slice A m c) m (fV (((l.take j).filter (edgeHit a b)).map f))
set_option maxHeartbeats 4000000 in
set_option maxRecDepth 100000 in
theorem kpair_any (sd : List Sst) (hs : OkSd sd) (x : Nm) (hx : x.edges.length ≤ 1000000) (a b : Int) (A : Option Addr) (k : Nat) (X : Option Addr) (kx : Nat) (B : Option Addr) (j : Nat) (C : Option Addr) (c : Nat) (D : Option Addr) (d : Nat) (E : Option Addr) (e : Nat) (w : World)
    (ra : SstsR (PRow w) A sd) (rn : EdsR (PRow w) B x.edges) :
    Gives Tryz.prog 46 #[.slice A sd.length k, .agg (nmC x X kx B j C c D d E e), .int .i64 a, .int .i64 b] w (.float .f64 (pairK sd x.edges a b)) := by
  obtain ⟨W0, hW0⟩ : ∃ W0, W0 = w.alloc (.cells (nmC x X kx B j C c D d E e) 39) := ⟨_, rfl⟩
  have HG0 : Hid (Grew w W0) := Lib.hid (by rw [hW0]; exact (Grew.refl w).alloc _)
  have HX0 : Hid (Blok W0 w.heap.size 39 (nmC x X kx B j C c D d E e)) := Lib.hid (by rw [hW0]; exact Blok.new _ _ _ _ rfl)
  obtain ⟨x0, m0, m1, m2, m3, m4, m5⟩ := nm6 HX0.out
  have HS : Hid (∀ y : Ed, ∀ W, Grew W0 W → Gives Tryz.prog 88 #[.slice A sd.length k, .int .i64 y.a, .int .i64 y.ac, .int .i64 y.b, .int .i64 y.bc] W (.float .f64 (sameK sd y.a y.ac y.b y.bc))) := Lib.hid fun y W hW => ksame_any sd hs y.a y.ac y.b y.bc A k W (ra.grew (HG0.out.trans hW))
  obtain ⟨fin, hfin⟩ : ∃ fin, (x.edges.filter (edgeHit a b)).map (fun e => sameK sd e.a e.ac e.b e.bc) = fin := ⟨_, rfl⟩
  have HFin := Lib.hid hfin
  have hle : ∀ q ∈ fin, q ≤ 4607182418800017408 := fun q hq => by rw [← hfin] at hq; obtain ⟨y, _, rfl⟩ := List.mem_map.1 hq; exact ofB_le _ _
  have hfl : fin.length ≤ 1000000 := by rw [← hfin, List.length_map]; exact Nat.le_trans (List.length_filter_le _ _) hx
  unfold pairK
  rw [hfin]
  have HAn : Hid (∀ W Z z, Row W Z (fV fin) → Calls Tryz.prog 55 #[.slice Z fin.length z] W fun e w' => e = .returned (.float .f64 (andF fin 4607182418800017408)) ∧ w' = W) := Lib.hid fun W Z z hz => fo_and_any fin Z z hfl (fun q hq => by have := hle q hq; omega) W hz
  have HRl := Lib.hid (rn.grew HG0.out)
  have HSm : Hid (∀ y : Ed, sameK sd y.a y.ac y.b y.bc = (fun e : Ed => sameK sd e.a e.ac e.b e.bc) y) := Lib.hid fun y => rfl
  have HLx := Lib.hid hx
  clear ra rn hx hs hle hfl hfin
  generalize andF fin 4607182418800017408 = q at *
  generalize hf : (fun e : Ed => sameK sd e.a e.ac e.b e.bc) = f at *
  have HSf : Hid (∀ y : Ed, ∀ W, Grew W0 W → Gives Tryz.prog 88 #[.slice A sd.length k, .int .i64 y.a, .int .i64 y.ac, .int .i64 y.b, .int .i64 y.bc] W (.float .f64 (f y))) := Lib.hid fun y W hW => by rw [← hf]; exact HS.out y W hW
  clear HS HSm hf
  generalize x.edges = l at *
  unfold nmC at *
  unfold Gives
  go_enter Tryz.func46, Tryz.ntmps46
  go_upto_region 1 with fail
  rw [← hW0]
  clear hW0
  go_wp2
  go_loopw [9, 15] (fun v i wr => PrAt W0 f a b l v i wr) (fun _ i _ => l.length - (intOf i).toNat)
  case atStart => exact ⟨0, 0, none, 0, Nat.zero_le _, rfl, rfl, rfl, Grew.refl _, own_none _ _ _ _⟩
  case round =>
    obtain ⟨n, m, A1, c1, hn, hm, rfl, rfl, hg, ho⟩ := hrel
    have HG := Lib.hid hg
    have HO := Lib.hid ho
    have HM := Lib.hid hm
    clear hg ho
    by_cases hlt : n < l.length
    · obtain ⟨b1, o1, rfl, hb1, n0, n1, n2, n3⟩ := edsR_at (HRl.out.grew HG.out) hlt
      have hmn : m ≤ n := by rw [hm]; exact Nat.le_trans (List.length_filter_le _ _) (by rw [List.length_take]; omega)
      have HSy : Hid (∀ W, Grew wr W → Gives Tryz.prog 88 #[.slice A sd.length k, .int .i64 l[n].a, .int .i64 l[n].ac, .int .i64 l[n].b, .int .i64 l[n].bc] W (.float .f64 (f l[n]))) := Lib.hid fun W hW => HSf.out l[n] W (HG.out.trans hW)
      have HT1 : Hid (edgeHit a b l[n] = true → (l.take (n + 1)).filter (edgeHit a b) = (l.take n).filter (edgeHit a b) ++ [l[n]]) := Lib.hid fun h => by rw [List.take_succ_eq_append_getElem hlt, List.filter_append]; simp [h]
      have HT0 : Hid (edgeHit a b l[n] = false → (l.take (n + 1)).filter (edgeHit a b) = (l.take n).filter (edgeHit a b)) := Lib.hid fun h => by rw [List.take_succ_eq_append_getElem hlt, List.filter_append]; simp [h]
      clear hm
      generalize hfq : f l[n] = fq at *
      generalize l[n] = y at *
      have HFy : Hid (f y = fq) := Lib.hid hfq
      clear hfq
      generalize hfl : (l.take n).filter (edgeHit a b) = fl at *
      have hx := HLx.out
      go_upto_region 5 with fail
      obtain ⟨w7, hw7⟩ : ∃ w7, w7 = wr.alloc (.cells #[.int .i64 y.a, .int .i64 y.ac, .int .i64 y.b, .int .i64 y.bc] 66) := ⟨_, rfl⟩
      have HB7 : Hid (Blok w7 wr.heap.size 66 #[.int .i64 y.a, .int .i64 y.ac, .int .i64 y.b, .int .i64 y.bc]) := Lib.hid (by rw [hw7]; exact Blok.new _ _ _ _ rfl)
      have HG7 : Hid (Grew wr w7) := Lib.hid (by rw [hw7]; exact (Grew.refl _).alloc _)
      rw [← hw7]
      clear hw7 n0 n1 n2 n3 hb1
      generalize wr.heap.size = g7 at *
      obtain ⟨z0, p0, p1, p2, p3, _, _, _, _⟩ := ed_in HB7.out
      by_cases q1 : y.a = a
      · have h0 : True := trivial
        by_cases q2 : y.b = b
        · have h0 : True := trivial
          have hhit : edgeHit a b y = true := by unfold edgeHit; rw [decide_eq_true q1, decide_eq_true q2]; first | done | rfl
          have e1 : (y.a == a) = true := by simp [q1]
          have e2 : (y.b == b) = true := by simp [q2]
          clear q1
          clear q2
          have HT := Lib.hid (HT1.out hhit)
          clear hhit
          go_wp2_with (first | (go_at_call 88; (with_reducible refine (HSy.out _ HG7.out).grows.mono ?_); rintro en w8 ⟨rfl, hg8⟩; have HG8 := Lib.hid (HG.out.trans (HG7.out.trans hg8)); have HO8 := Lib.hid (own_grewE HO.out (HG7.out.trans hg8)); clear hg8) | (at_builtin; refine wpList_appB rfl _ _ 75 43 1 rfl W0.heap.size (.float .f64 0) 8 Tryz.underlying75 infoFl rfl (by decide) (by decide) _ m (fV (fl.map f)) rfl (own_alloc HO8.out (.cells #[.float .f64 fq] 43)) _ 1 1 [.float .f64 fq] rfl rfl (row_one _ _ _ _ rfl) (by simp [Value.oneCell']) (by omega) (by rw [World.size_alloc]; have := HG8.out.size; omega) ?_; intro A9 c9 w9 ho9 hb9; have HG9 := Lib.hid ((HG8.out.alloc (.cells #[.float .f64 fq] 43)).grown hb9 (own_base HO8.out)); have HO9 := Lib.hid ho9; clear ho9 hb9))
          exact ⟨⟨n + 1, m + 1, A9, c9, by omega, by rw [HT.out, List.length_append, ← HM.out]; rfl, rfl, by go_num, HG9.out, by rw [HT.out, List.map_append]; simp only [fV, List.map_append, List.map_cons, List.map_nil, HFy.out]; exact HO9.out⟩, by simp only [intOf]; omega⟩
        · have h0 : True := trivial
          by_cases q3 : y.a = b
          · have h0 : True := trivial
            by_cases q4 : y.b = a
            · have h0 : True := trivial
              have hhit : edgeHit a b y = true := by unfold edgeHit; rw [decide_eq_true q1, decide_eq_false q2, decide_eq_true q3, decide_eq_true q4]; first | done | rfl
              have e1 : (y.a == a) = true := by simp [q1]
              have e2 : (y.b == b) = false := by simp [q2]
              have e3 : (y.a == b) = true := by simp [q3]
              have e4 : (y.b == a) = true := by simp [q4]
              clear q1
              clear q2
              clear q3
              clear q4
              have HT := Lib.hid (HT1.out hhit)
              clear hhit
              go_wp2_with (first | (go_at_call 88; (with_reducible refine (HSy.out _ HG7.out).grows.mono ?_); rintro en w8 ⟨rfl, hg8⟩; have HG8 := Lib.hid (HG.out.trans (HG7.out.trans hg8)); have HO8 := Lib.hid (own_grewE HO.out (HG7.out.trans hg8)); clear hg8) | (at_builtin; refine wpList_appB rfl _ _ 75 43 1 rfl W0.heap.size (.float .f64 0) 8 Tryz.underlying75 infoFl rfl (by decide) (by decide) _ m (fV (fl.map f)) rfl (own_alloc HO8.out (.cells #[.float .f64 fq] 43)) _ 1 1 [.float .f64 fq] rfl rfl (row_one _ _ _ _ rfl) (by simp [Value.oneCell']) (by omega) (by rw [World.size_alloc]; have := HG8.out.size; omega) ?_; intro A9 c9 w9 ho9 hb9; have HG9 := Lib.hid ((HG8.out.alloc (.cells #[.float .f64 fq] 43)).grown hb9 (own_base HO8.out)); have HO9 := Lib.hid ho9; clear ho9 hb9))
              exact ⟨⟨n + 1, m + 1, A9, c9, by omega, by rw [HT.out, List.length_append, ← HM.out]; rfl, rfl, by go_num, HG9.out, by rw [HT.out, List.map_append]; simp only [fV, List.map_append, List.map_cons, List.map_nil, HFy.out]; exact HO9.out⟩, by simp only [intOf]; omega⟩
            · have h0 : True := trivial
              have hhit : edgeHit a b y = false := by unfold edgeHit; rw [decide_eq_true q1, decide_eq_false q2, decide_eq_true q3, decide_eq_false q4]; first | done | rfl
              have e1 : (y.a == a) = true := by simp [q1]
              have e2 : (y.b == b) = false := by simp [q2]
              have e3 : (y.a == b) = true := by simp [q3]
              have e4 : (y.b == a) = false := by simp [q4]
              clear q1
              clear q2
              clear q3
              clear q4
              have HT := Lib.hid (HT0.out hhit)
              clear hhit
              go_wp2
              exact ⟨⟨n + 1, m, A1, c1, by omega, by rw [HT.out]; exact HM.out, rfl, by go_num, HG.out.trans HG7.out, by rw [HT.out]; exact own_grewE HO.out HG7.out⟩, by simp only [intOf]; omega⟩
          · have h0 : True := trivial
            have hhit : edgeHit a b y = false := by unfold edgeHit; rw [decide_eq_true q1, decide_eq_false q2, decide_eq_false q3]; first | done | rfl
            have e1 : (y.a == a) = true := by simp [q1]
            have e2 : (y.b == b) = false := by simp [q2]
            have e3 : (y.a == b) = false := by simp [q3]
            clear q1
            clear q2
            clear q3
            have HT := Lib.hid (HT0.out hhit)
            clear hhit
            go_wp2
            exact ⟨⟨n + 1, m, A1, c1, by omega, by rw [HT.out]; exact HM.out, rfl, by go_num, HG.out.trans HG7.out, by rw [HT.out]; exact own_grewE HO.out HG7.out⟩, by simp only [intOf]; omega⟩
      · have h0 : True := trivial
        by_cases q3 : y.a = b
        · have h0 : True := trivial
          by_cases q4 : y.b = a
          · have h0 : True := trivial
            have hhit : edgeHit a b y = true := by unfold edgeHit; rw [decide_eq_false q1, decide_eq_true q3, decide_eq_true q4]; first | done | rfl
            have e1 : (y.a == a) = false := by simp [q1]
            have e3 : (y.a == b) = true := by simp [q3]
            have e4 : (y.b == a) = true := by simp [q4]
            clear q1
            clear q3
            clear q4
            have HT := Lib.hid (HT1.out hhit)
            clear hhit
            go_wp2_with (first | (go_at_call 88; (with_reducible refine (HSy.out _ HG7.out).grows.mono ?_); rintro en w8 ⟨rfl, hg8⟩; have HG8 := Lib.hid (HG.out.trans (HG7.out.trans hg8)); have HO8 := Lib.hid (own_grewE HO.out (HG7.out.trans hg8)); clear hg8) | (at_builtin; refine wpList_appB rfl _ _ 75 43 1 rfl W0.heap.size (.float .f64 0) 8 Tryz.underlying75 infoFl rfl (by decide) (by decide) _ m (fV (fl.map f)) rfl (own_alloc HO8.out (.cells #[.float .f64 fq] 43)) _ 1 1 [.float .f64 fq] rfl rfl (row_one _ _ _ _ rfl) (by simp [Value.oneCell']) (by omega) (by rw [World.size_alloc]; have := HG8.out.size; omega) ?_; intro A9 c9 w9 ho9 hb9; have HG9 := Lib.hid ((HG8.out.alloc (.cells #[.float .f64 fq] 43)).grown hb9 (own_base HO8.out)); have HO9 := Lib.hid ho9; clear ho9 hb9))
            exact ⟨⟨n + 1, m + 1, A9, c9, by omega, by rw [HT.out, List.length_append, ← HM.out]; rfl, rfl, by go_num, HG9.out, by rw [HT.out, List.map_append]; simp only [fV, List.map_append, List.map_cons, List.map_nil, HFy.out]; exact HO9.out⟩, by simp only [intOf]; omega⟩
          · have h0 : True := trivial
            have hhit : edgeHit a b y = false := by unfold edgeHit; rw [decide_eq_false q1, decide_eq_true q3, decide_eq_false q4]; first | done | rfl
            have e1 : (y.a == a) = false := by simp [q1]
            have e3 : (y.a == b) = true := by simp [q3]
            have e4 : (y.b == a) = false := by simp [q4]
            clear q1
            clear q3
            clear q4
            have HT := Lib.hid (HT0.out hhit)
            clear hhit
            go_wp2
            exact ⟨⟨n + 1, m, A1, c1, by omega, by rw [HT.out]; exact HM.out, rfl, by go_num, HG.out.trans HG7.out, by rw [HT.out]; exact own_grewE HO.out HG7.out⟩, by simp only [intOf]; omega⟩
        · have h0 : True := trivial
          have hhit : edgeHit a b y = false := by unfold edgeHit; rw [decide_eq_false q1, decide_eq_false q3]; first | done | rfl
          have e1 : (y.a == a) = false := by simp [q1]
          have e3 : (y.a == b) = false := by simp [q3]
          clear q1
          clear q3
          have HT := Lib.hid (HT0.out hhit)
          clear hhit
          go_wp2
          exact ⟨⟨n + 1, m, A1, c1, by omega, by rw [HT.out]; exact HM.out, rfl, by go_num, HG.out.trans HG7.out, by rw [HT.out]; exact own_grewE HO.out HG7.out⟩, by simp only [intOf]; omega⟩
    · obtain rfl : n = l.length := by omega
      rw [List.take_length, HFin.out] at HO
      rw [List.take_length] at HM
      have hmf : m = fin.length := by rw [HM.out, ← HFin.out, List.length_map]
      clear HM hm
      subst hmf
      obtain ⟨A', c', e', hrow⟩ := own_row HO.out
      injection e' with e1 _ _
      subst e1
      have HRow := Lib.hid hrow
      clear hrow HO
      go_wp2_with (go_at_call 55; (with_reducible refine (HAn.out _ _ _ HRow.out).mono ?_); rintro en wz ⟨rfl, hwz⟩; subst hwz)
      go_ret
      exact ⟨rfl, HG0.out.trans HG.out⟩
end Go.Proofs.YtbglmcebkpkccaaGreatDoor
/- Layer 29: cost.Scan and cost.Pair. Condition: what is said, and conditions, in memory that is there; the turned signs as they are laid. -/
namespace Go.Proofs.YtbglmcebkpkccaaGreatDoor
open Go.RowKit
attribute [local go_sem] more_cell more_frozen more_more more_setCell more_of_drew more_of_drewN lt_more le_more past_cell past_cell2 past_frozen past_frozen2 past_setCell past_setCell2 mid_cell mid_frozen mid_setCell
attribute [local go_sem] fldC0 fldC1 fldS0
attribute [local go_sem ↓] Go.wp_at_zero Go.wp_at_succ
set_option maxHeartbeats 4000000 in
set_option maxRecDepth 100000 in
theorem costScan_any (l : List Sst) (hl : l.length ≤ 1000000) (hm : LitSd l) (x : Nm) (hx : ∀ l ∈ x.scan, l.length ≤ 1000000) (t : Int) (A : Option Addr) (k : Nat) (X : Option Addr) (kx : Nat) (B : Option Addr) (j : Nat) (C : Option Addr) (c : Nat) (D : Option Addr) (d : Nat) (E : Option Addr) (e : Nat) (w : World)
    (ra : SstsR (PRow w) A l) (ht : TurnC w) (rn : XllR (PRow w) X x.scan) :
    Gives Tryz.prog 11 #[.agg (nmC x X kx B j C c D d E e), .slice A l.length k, .int .i64 t] w (.int .i64 (scanK (heldAll l) x.scan t)) := by
  have HH : Hid (∀ W, Grew w W → Calls Tryz.prog 39 #[.slice A l.length k] W (KheldF W (heldAll l))) := Lib.hid fun W hW => kheld_any l hl (fun s hs => (hm s hs).2) A k W (ra.grew hW)
  have HS : Hid (∀ W Z kB, Grew w W → SstsR (PRow W) Z (heldAll l) → Gives Tryz.prog 40 #[.slice Z (heldAll l).length kB, .agg (nmC x X kx B j C c D d E e), .int .i64 t] W (.int .i64 (scanK (heldAll l) x.scan t))) := Lib.hid fun W Z kB hW hB => kscan_any (heldAll l) (heldAll_ok l) x hx t Z kB X kx B j C c D d E e W hB (ht.grew hW) (rn.grew hW)
  obtain ⟨W0, hW0⟩ : ∃ W0, W0 = w.alloc (.cells (nmC x X kx B j C c D d E e) 39) := ⟨_, rfl⟩
  have HG0 : Hid (Grew w W0) := Lib.hid (by rw [hW0]; exact (Grew.refl w).alloc _)
  have HX0 : Hid (Blok W0 w.heap.size 39 (nmC x X kx B j C c D d E e)) := Lib.hid (by rw [hW0]; exact Blok.new _ _ _ _ rfl)
  clear rn ra ht hm hl hx
  generalize scanK (heldAll l) x.scan t = q at *
  unfold nmC at HS hW0 ⊢
  unfold Gives
  go_enter Tryz.func11, Tryz.ntmps11
  go_upto_region 1 with fail
  rw [← hW0]
  clear hW0
  have hS0 : Grew W0 W0.drew := (Grew.refl W0).drew
  refine wp_region_S (fun W => Grew W0 W) (by kernel_rfl) ?_
  refine held_take 0 (v := ?_) rfl (by kernel_rfl) (by kernel_rfl) (by kernel_rfl) (fun _ _ _ h => h) (by rfl) ?_ hS0 ?_; rotate_left; · (intro W hW; obtain ⟨x0, m0, m1, m2, m3, m4, m5⟩ := nm6 (HX0.out.grew hW); go_simp; with_reducible rfl)
  refine held_take 2 (v := ?_) rfl (by kernel_rfl) (by kernel_rfl) (by kernel_rfl) (fun _ _ _ h => h) (by rfl) ?_ hS0 ?_; rotate_left; · (intro W hW; obtain ⟨x0, m0, m1, m2, m3, m4, m5⟩ := nm6 (HX0.out.grew hW); go_simp; with_reducible rfl)
  refine held_take 3 (v := ?_) rfl (by kernel_rfl) (by kernel_rfl) (by kernel_rfl) (fun _ _ _ h => h) (by rfl) ?_ hS0 ?_; rotate_left; · (intro W hW; obtain ⟨x0, m0, m1, m2, m3, m4, m5⟩ := nm6 (HX0.out.grew hW); go_simp; with_reducible rfl)
  refine held_norm (a' := ?_) ?_ ?_; rotate_left; · (go_simp; with_reducible rfl)
  refine held_call 1 (by kernel_rfl) rfl (by rfl) (fun K hK => ?_)
  go_simp
  go_wp2_with ((go_at_call 39; (with_reducible refine (HH.out _ (HG0.out.trans hS0)).mono ?_); rintro en wn ⟨Z, kB, rfl, hgn, hB⟩; have hS1 := hS0.trans hgn))
  refine hK.out _ _ hS1 ?_
  clear hK K
  refine held_call 4 (by kernel_rfl) rfl (by rfl) (fun K hK => ?_)
  go_simp
  go_wp2_with ((go_at_call 40; (with_reducible refine (HS.out _ _ _ (HG0.out.trans hS1) hB).grows.mono ?_); rintro en wn ⟨rfl, hgn2⟩; have hS2 := hS1.trans hgn2))
  refine hK.out _ _ hS2 ?_
  clear hK K
  refine held_take 5 (v := ?_) rfl (by kernel_rfl) (by kernel_rfl) (by kernel_rfl) (fun _ _ _ h => h) (by rfl) ?_ hS2 ?_; rotate_left; · (intro W hW; go_simp; with_reducible rfl)
  refine held_norm (a' := ?_) ?_ ?_; rotate_left; · (go_simp; with_reducible rfl)
  refine held_done (by kernel_rfl) ?_
  have HGf := Lib.hid (HG0.out.trans hS2)
  clear hS2 hS1 hS0 hgn hgn2
  go_wp2
  go_ret
  exact ⟨rfl, HGf.out⟩
end Go.Proofs.YtbglmcebkpkccaaGreatDoor
/- Layer 29: is a number no table of a query's? By the program. Condition: the query's conditions in memory. -/
namespace Go.Proofs.YtbglmcebkpkccaaGreatDoor
open Go.RowKit
attribute [local go_sem] more_cell more_frozen more_more more_setCell more_of_drew more_of_drewN lt_more le_more past_cell past_cell2 past_frozen past_frozen2 past_setCell past_setCell2 mid_cell mid_frozen mid_setCell
attribute [local go_sem ↓] Go.wp_at_zero Go.wp_at_succ
def noTab (n : Nat) (t : Int) : Bool := decide (t < 0) || decide ((n : Int) ≤ t)
theorem knotab_any (x : Nm) (t : Int) (g : Nat) (X : Option Addr) (kx : Nat) (B : Option Addr) (j : Nat) (C : Option Addr) (c : Nat) (D : Option Addr) (d : Nat) (E : Option Addr) (e : Nat) (w : World) (hb : Blok w g 39 (nmC x X kx B j C c D d E e)) :
    Calls Tryz.prog 50 #[.int .i64 t, .pointer (some ⟨g, 0, none⟩)] w fun en w' => en = .returned (.bool (noTab x.scan.length t)) ∧ w' = w := by
  obtain ⟨x0, m0, m1, m2, m3, m4, m5⟩ := nm6 hb
  clear hb
  unfold noTab
  generalize x.scan.length = n at *
  by_cases h : t < 0
  · rw [decide_eq_true h]
    go_enter Tryz.func50, Tryz.ntmps50
    go_wp2
    go_ret
    exact ⟨rfl, rfl⟩
  · have t1 : decide (t < (0 : Int)) = false := decide_eq_false h
    rw [t1]
    by_cases h2 : (n : Int) ≤ t
    · have t2 : decide ((n : Int) ≤ t) = true := decide_eq_true h2
      rw [t2]
      go_enter Tryz.func50, Tryz.ntmps50
      go_wp2
      go_ret
      exact ⟨rfl, rfl⟩
    · have t2 : decide ((n : Int) ≤ t) = false := decide_eq_false h2
      rw [t2]
      go_enter Tryz.func50, Tryz.ntmps50
      go_wp2
      go_ret
      exact ⟨rfl, rfl⟩
end Go.Proofs.YtbglmcebkpkccaaGreatDoor
/- Layers 29 and 30: pairs of tables, what an order costs, and the best order, as functions. No condition. -/
namespace Go.Proofs.YtbglmcebkpkccaaGreatDoor
open Go.RowKit
def pairsTo (f : Int → Int → Nat) : List Int → Nat → List Nat
  | [], _ => []
  | _ :: _, 0 => []
  | a :: l, i + 1 => l.map (f a) ++ pairsTo f l i
theorem pairsTo_zero (f : Int → Int → Nat) (l : List Int) : pairsTo f l 0 = [] := by cases l <;> rfl
theorem pairsTo_succ (f : Int → Int → Nat) : ∀ (l : List Int) (i : Nat) (h : i < l.length), pairsTo f l (i + 1) = pairsTo f l i ++ (l.drop (i + 1)).map (f l[i])
  | a :: l, 0, _ => by simp [pairsTo, pairsTo_zero]
  | a :: l, i + 1, h => by
    have ih := pairsTo_succ f l i (by simpa using h)
    rw [pairsTo, ih, pairsTo, List.append_assoc]
    rfl
theorem pairsTo_all (f : Int → Int → Nat) : ∀ l : List Int, pairsTo f l l.length = pairsK f l
  | [] => rfl
  | a :: l => by simp only [List.length_cons, pairsTo, pairsK, pairsTo_all f l]
theorem pairsTo_len (f : Int → Int → Nat) : ∀ (l : List Int) (i : Nat), (pairsTo f l i).length ≤ l.length * i
  | [], i => by simp [pairsTo]
  | a :: l, 0 => by simp [pairsTo]
  | a :: l, i + 1 => by
    have ih := pairsTo_len f l i
    simp only [pairsTo, List.length_append, List.length_map, List.length_cons, Nat.add_mul, Nat.mul_add]
    omega
theorem pairsK_mem {f : Int → Int → Nat} {B : Nat} (hf : ∀ a b, f a b ≤ B) : ∀ l : List Int, ∀ q ∈ pairsK f l, q ≤ B
  | [], q, h => by simp [pairsK] at h
  | a :: l, q, h => by
    rw [pairsK] at h
    rcases List.mem_append.1 h with h | h
    · obtain ⟨b, _, rfl⟩ := List.mem_map.1 h
      exact hf a b
    · exact pairsK_mem hf l q h
/-- The tables of a set from one on. -/
def tabsF (s n : Nat) (set : List Int) : List Int := ((List.range' s (n - s)).map fun (i : Nat) => (i : Int)).filter fun a => decide (a ∈ set)
theorem tabsF_zero (n : Nat) (set : List Int) : tabsF 0 n set = tabsK n set := by
  unfold tabsF tabsK
  rw [List.range_eq_range', Nat.sub_zero]
theorem tabsF_end (n : Nat) (set : List Int) : tabsF n n set = [] := by
  unfold tabsF
  rw [Nat.sub_self]
  rfl
theorem tabsF_step {s n : Nat} (h : s < n) (set : List Int) : tabsF s n set = (if (s : Int) ∈ set then [(s : Int)] else []) ++ tabsF (s + 1) n set := by
  unfold tabsF
  rw [show n - s = (n - (s + 1)) + 1 by omega, List.range'_succ, List.map_cons, List.filter_cons]
  by_cases hm : (s : Int) ∈ set <;> simp [hm]
theorem tabsF_snoc {s b : Nat} (h : s ≤ b) (set : List Int) : tabsF s (b + 1) set = tabsF s b set ++ if (b : Int) ∈ set then [(b : Int)] else [] := by
  unfold tabsF
  rw [show b + 1 - s = (b - s) + 1 by omega, List.range'_concat, List.map_append, List.filter_append]
  congr 1
  rw [show s + 1 * (b - s) = b by omega]
  by_cases hm : (b : Int) ∈ set <;> simp [hm]
theorem tabsF_len (s n : Nat) (set : List Int) : (tabsF s n set).length ≤ n := by
  unfold tabsF
  refine Nat.le_trans (List.length_filter_le _ _) ?_
  rw [List.length_map, List.length_range']
  omega
theorem tabsK_len (n : Nat) (set : List Int) : (tabsK n set).length ≤ n := by rw [← tabsF_zero]; exact tabsF_len _ _ _
def prsTo (f : Int → Int → Nat) (n : Nat) (set : List Int) : Nat → List Nat
  | 0 => []
  | a + 1 => prsTo f n set a ++ if (a : Int) ∈ set then (tabsF (a + 1) n set).map (f a) else []
theorem prsTo_pre (f : Int → Int → Nat) (n : Nat) (set : List Int) : ∀ a, a ≤ n → prsTo f n set a ++ pairsK f (tabsF a n set) = pairsK f (tabsK n set)
  | 0, _ => by rw [tabsF_zero]; rfl
  | a + 1, h => by
    rw [← prsTo_pre f n set a (by omega), prsTo, tabsF_step (by omega : a < n), List.append_assoc]
    congr 1
    by_cases hm : (a : Int) ∈ set <;> simp [hm, pairsK]
theorem prsTo_all (f : Int → Int → Nat) (n : Nat) (set : List Int) : prsTo f n set n = pairsK f (tabsK n set) := by
  have h := prsTo_pre f n set n (Nat.le_refl _)
  rwa [tabsF_end, pairsK, List.append_nil] at h
theorem prsTo_len (f : Int → Int → Nat) (n : Nat) (set : List Int) : ∀ a, (prsTo f n set a).length ≤ n * a
  | 0 => by simp [prsTo]
  | a + 1 => by
    have ih := prsTo_len f n set a
    have h1 := tabsF_len (a + 1) n set
    rw [prsTo, List.length_append, Nat.mul_add]
    split
    · rw [List.length_map]; omega
    · simp only [List.length_nil]; omega
theorem pairsK_len (f : Int → Int → Nat) (l : List Int) : (pairsK f l).length ≤ l.length * l.length := by
  rw [← pairsTo_all]
  exact pairsTo_len f l _
section
variable (s : Int → Int) (z : List Int → Int)
def stepA (c a b : Int) : Int := foldP [c, a, b] 0
def wout (l : List Int) (t : Int) : List Int := l.filter fun x => decide (x ≠ t)
def pickTo (c : Int → List Int × Int) (l : List Int) : Nat → List Int × Int
  | 0 => ([], 0)
  | j + 1 => if j = 0 ∨ (c (l.getD j 0)).2 < (pickTo c l j).2 then c (l.getD j 0) else pickTo c l j
def bestOf : Nat → List Int → List Int × Int
  | 0, l => (l, 0)
  | k + 1, l => if l.length < 2 then (l, 0) else pickTo (fun t => ((bestOf k (wout l t)).1 ++ [t], stepA (bestOf k (wout l t)).2 (s t) (z l))) l l.length
def bstB (l : List Int) : List Int × Int := bestOf s z l.length l
theorem wout_mem (l : List Int) (t x : Int) : x ∈ wout l t ↔ x ∈ l ∧ x ≠ t := by unfold wout; simp [List.mem_filter]
theorem wout_nodup {l : List Int} (h : l.Nodup) (t : Int) : (wout l t).Nodup := h.filter _
theorem wout_lt {l : List Int} {t : Int} (h : t ∈ l) : (wout l t).length < l.length := by
  unfold wout
  rcases Nat.lt_or_ge (l.filter fun x => decide (x ≠ t)).length l.length with h1 | h1
  · exact h1
  · have h2 := List.length_filter_eq_length_iff.1 (Nat.le_antisymm (List.length_filter_le _ _) h1)
    have := h2 t h
    simp at this
theorem wout_len {l : List Int} (hn : l.Nodup) {t : Int} (h : t ∈ l) : (wout l t).length + 1 = l.length := by
  induction l with
  | nil => simp at h
  | cons a l ih =>
    have hn' := List.nodup_cons.1 hn
    by_cases ha : a = t
    · subst ha
      have : wout (a :: l) a = l := by
        unfold wout
        rw [List.filter_cons, if_neg (by simp)]
        exact List.filter_eq_self.2 fun x hx => by
          have : x ≠ a := fun e => hn'.1 (e ▸ hx)
          simp [this]
      rw [this]
      rfl
    · have ht : t ∈ l := by
        rcases List.mem_cons.1 h with h | h
        · exact absurd h.symm ha
        · exact h
      have := ih hn'.2 ht
      unfold wout at this ⊢
      rw [List.filter_cons, if_pos (by simp [ha]), List.length_cons, List.length_cons]
      omega
theorem pickTo_congr {c d : Int → List Int × Int} {l : List Int} (h : ∀ t ∈ l, c t = d t) : ∀ j, j ≤ l.length → pickTo c l j = pickTo d l j
  | 0, _ => rfl
  | j + 1, hj => by
    have hm : l.getD j 0 ∈ l := by
      rw [List.getD_eq_getElem?_getD, List.getElem?_eq_getElem (by omega)]
      exact List.getElem_mem _
    rw [pickTo, pickTo, pickTo_congr h j (by omega), h _ hm]
theorem bestOf_fuel : ∀ (k : Nat) (l : List Int), l.length ≤ k → bestOf s z k l = bstB s z l
  | 0, l, h => by
    have h0 : l = [] := List.eq_nil_of_length_eq_zero (by omega)
    subst h0
    rfl
  | k + 1, l, h => by
    rcases Nat.lt_or_ge l.length (k + 1) with h1 | h1
    · rw [← bestOf_fuel k l (by omega)]
      cases k with
      | zero =>
        show bestOf s z 1 l = (l, 0)
        unfold bestOf
        rw [if_pos (by omega)]
      | succ k =>
        rw [bestOf, bestOf]
        split
        · rfl
        · refine pickTo_congr (fun t ht => ?_) _ (Nat.le_refl _)
          have := wout_lt ht
          rw [bestOf_fuel (k + 1) _ (by omega), ← bestOf_fuel k _ (by omega)]
    · unfold bstB
      rw [show l.length = k + 1 by omega]
theorem bstB_few {l : List Int} (h : l.length < 2) : bstB s z l = (l, 0) := by
  unfold bstB
  match l, h with
  | [], _ => rfl
  | [a], _ => rfl
def candB (l : List Int) (t : Int) : List Int × Int := ((bstB s z (wout l t)).1 ++ [t], stepA (bstB s z (wout l t)).2 (s t) (z l))
theorem bstB_more {l : List Int} (h : 2 ≤ l.length) : bstB s z l = pickTo (candB s z l) l l.length := by
  unfold bstB
  obtain ⟨k, hk⟩ : ∃ k, l.length = k + 1 := ⟨l.length - 1, by omega⟩
  conv => lhs; rw [hk, bestOf]
  rw [if_neg (by omega)]
  refine pickTo_congr (fun t ht => ?_) _ (Nat.le_refl _)
  have := wout_lt ht
  rw [bestOf_fuel s z k _ (by omega)]
  rfl
theorem pickTo_mem (c : Int → List Int × Int) (l : List Int) : ∀ j, 0 < j → j ≤ l.length → ∃ t ∈ l, pickTo c l j = c t
  | j + 1, _, hj => by
    have hm : l.getD j 0 ∈ l := by
      rw [List.getD_eq_getElem?_getD, List.getElem?_eq_getElem (by omega)]
      exact List.getElem_mem _
    rw [pickTo]
    split
    · exact ⟨_, hm, rfl⟩
    · have h0 : j ≠ 0 := fun e => by simp_all
      exact pickTo_mem c l j (by omega) (by omega)
theorem bstB_last {l : List Int} (h : l ≠ []) : ∃ t ∈ l, bstB s z l = (if l.length < 2 then (l, 0) else candB s z l t) ∧ (bstB s z l).1 = (bstB s z (wout l t)).1 ++ [t] := by
  rcases Nat.lt_or_ge l.length 2 with h2 | h2
  · match l, h, h2 with
    | [a], _, _ =>
      refine ⟨a, by simp, by rw [if_pos (by simp)]; rfl, ?_⟩
      rw [bstB_few s z (by simp), show wout [a] a = [] by simp [wout], bstB_few s z (by simp)]
      rfl
  · obtain ⟨t, ht, e⟩ := pickTo_mem (candB s z l) l l.length (by omega) (Nat.le_refl _)
    refine ⟨t, ht, by rw [if_neg (by omega), bstB_more s z h2, e], ?_⟩
    rw [bstB_more s z h2, e]
    rfl
/-- It is an order of just these tables. -/
theorem bstB_perm : ∀ (n : Nat) (l : List Int), l.length = n → l.Nodup → (bstB s z l).1.Nodup ∧ (bstB s z l).1.length = l.length ∧ ∀ x, x ∈ (bstB s z l).1 ↔ x ∈ l
  | 0, l, h, _ => by
    have h0 : l = [] := List.eq_nil_of_length_eq_zero h
    subst h0
    exact ⟨List.nodup_nil, rfl, fun x => Iff.rfl⟩
  | n + 1, l, h, hn => by
    obtain ⟨t, ht, _, e⟩ := bstB_last s z (l := l) (fun h0 => by rw [h0] at h; simp at h)
    have hl := wout_len hn ht
    obtain ⟨h1, h2, h3⟩ := bstB_perm n (wout l t) (by omega) (wout_nodup hn t)
    rw [e]
    refine ⟨?_, by rw [List.length_append, h2]; simp only [List.length_cons, List.length_nil]; omega, fun x => ?_⟩
    · rw [List.nodup_append]
      refine ⟨h1, by simp, fun a ha b hb => ?_⟩
      rw [List.mem_singleton.1 hb]
      exact ((wout_mem l t a).1 ((h3 a).1 ha)).2
    · rw [List.mem_append, h3, wout_mem, List.mem_singleton]
      by_cases hx : x = t
      · subst hx; simp [ht]
      · simp [hx]
def costTo (l : List Int) : Nat → Int
  | 0 => 0
  | i + 1 => if i = 0 then 0 else stepA (costTo l i) (s (l.getD i 0)) (z (l.take (i + 1)))
def costS (l : List Int) : Int := costTo s z l l.length
variable (hz : ∀ l m : List Int, (∀ x, x ∈ l ↔ x ∈ m) → z l = z m)
include hz
end
end Go.Proofs.YtbglmcebkpkccaaGreatDoor
/- Layer 30: sets of tables as bits, orders of all tables, and the order that is taken one by one, as functions. No condition. -/
namespace Go.Proofs.YtbglmcebkpkccaaGreatDoor
open Go.RowKit
def membB (c set : Nat) : List Int := ((List.range c).filter fun t => set.testBit t).map fun (i : Nat) => (i : Int)
def clearB (set t : Nat) : Nat := if set.testBit t then set - 2 ^ t else set
theorem membB_mem (c set : Nat) (x : Int) : x ∈ membB c set ↔ ∃ t : Nat, x = t ∧ t < c ∧ set.testBit t = true := by
  unfold membB
  simp only [List.mem_map, List.mem_filter, List.mem_range]
  exact ⟨fun ⟨t, ⟨h1, h2⟩, h3⟩ => ⟨t, h3.symm, h1, h2⟩, fun ⟨t, h1, h2, h3⟩ => ⟨t, ⟨h2, h3⟩, h1.symm⟩⟩
theorem membB_nodup (c set : Nat) : (membB c set).Nodup := by
  unfold membB
  rw [List.nodup_iff_pairwise_ne, List.pairwise_map]
  exact (List.Pairwise.filter _ List.nodup_range).imp fun h h2 => h (by omega)
theorem membB_len (c set : Nat) : (membB c set).length ≤ c := by
  unfold membB
  rw [List.length_map]
  exact Nat.le_trans (List.length_filter_le _ _) (by simp)
theorem membB_succ (c set : Nat) : membB (c + 1) set = membB c set ++ if set.testBit c then [(c : Int)] else [] := by
  unfold membB
  rw [List.range_succ, List.filter_append, List.map_append]
  congr 1
  by_cases h : set.testBit c <;> simp [h]
theorem membB_zero (c : Nat) : membB c 0 = [] := by
  unfold membB
  simp
theorem membB_full (c : Nat) : membB c (2 ^ c - 1) = (List.range c).map fun (i : Nat) => (i : Int) := by
  unfold membB
  congr 1
  refine List.filter_eq_self.2 fun t ht => ?_
  rw [Nat.testBit_two_pow_sub_one]
  simpa using ht
set_option maxRecDepth 100000 in
theorem clear_bit : ∀ set < 64, ∀ t < 6, ∀ x < 6, (clearB set t).testBit x = (set.testBit x && x != t) := by decide +kernel
theorem clear_lt {set t : Nat} (h : set.testBit t = true) : clearB set t < set := by
  unfold clearB
  rw [if_pos h]
  have h1 := Nat.ge_two_pow_of_testBit h
  have h2 := Nat.two_pow_pos t
  omega
theorem membB_clear {c set t : Nat} (hc : c ≤ 6) (hs : set < 64) (ht : t < 6) : membB c (clearB set t) = wout (membB c set) t := by
  unfold membB wout
  rw [List.filter_map, List.filter_filter]
  congr 1
  refine List.filter_congr fun x hx => ?_
  have hx' := List.mem_range.1 hx
  rw [clear_bit set hs t ht x (by omega), Bool.and_comm]
  congr 1
  by_cases h : x = t
  · subst h; simp
  · have : (x : Int) ≠ t := by omega
    simp [h, this]
/-- A set of bits with none of the tables is none. -/
theorem membB_nil {c set : Nat} (hs : set < 2 ^ c) (h : membB c set = []) : set = 0 := by
  refine Nat.eq_of_testBit_eq fun i => ?_
  rw [Nat.zero_testBit]
  by_cases hi : i < c
  · by_cases hb : set.testBit i
    · have : (i : Int) ∈ membB c set := (membB_mem c set i).2 ⟨i, rfl, hi, hb⟩
      rw [h] at this
      simp at this
    · simpa using hb
  · exact Nat.testBit_lt_two_pow (Nat.lt_of_lt_of_le hs (Nat.pow_le_pow_right (by decide) (by omega)))
def risI (n : Nat) : List Int := (List.range n).map fun (i : Nat) => (i : Int)
theorem risI_mem (n : Nat) (x : Int) : x ∈ risI n ↔ 0 ≤ x ∧ x < n := by
  unfold risI
  simp only [List.mem_map, List.mem_range]
  exact ⟨fun ⟨t, h1, h2⟩ => by omega, fun h => ⟨x.toNat, by omega, by omega⟩⟩
theorem risI_nodup (n : Nat) : (risI n).Nodup := by
  unfold risI
  rw [List.nodup_iff_pairwise_ne, List.pairwise_map]
  exact List.nodup_range.imp fun h h2 => h (by omega)
theorem risI_len (n : Nat) : (risI n).length = n := by simp [risI]
theorem full_perm : ∀ (r l : List Int), r.Nodup → (∀ x ∈ r, x ∈ l) → l.length ≤ r.length → l.Perm r
  | [], l, _, _, h => by
    have h0 : l = [] := List.eq_nil_of_length_eq_zero (by simpa using h)
    subst h0
    exact List.Perm.refl _
  | a :: r, l, hn, hs, h => by
    have hn' := List.nodup_cons.1 hn
    have ha := hs a (by simp)
    have h1 := List.perm_cons_erase ha
    have h2 := h1.length_eq
    simp only [List.length_cons] at h h2
    refine h1.trans (List.Perm.cons a (full_perm r _ hn'.2 (fun x hx => ?_) (by omega)))
    exact (List.mem_erase_of_ne (fun e : x = a => hn'.1 (e ▸ hx))).2 (hs x (by simp [hx]))
def rightP (n : Nat) (l : List Int) : Prop := (∀ t : Nat, t < n → (t : Int) ∈ l) ∧ l.length = n
instance (n : Nat) (l : List Int) : Decidable (rightP n l) := inferInstanceAs (Decidable ((∀ t : Nat, t < n → (t : Int) ∈ l) ∧ l.length = n))
theorem rightP_perm {n : Nat} {l : List Int} : rightP n l ↔ l.Perm (risI n) := by
  constructor
  · rintro ⟨h1, h2⟩
    refine full_perm _ _ (risI_nodup n) (fun x hx => ?_) (by rw [risI_len]; omega)
    have := (risI_mem n x).1 hx
    have h := h1 x.toNat (by omega)
    rwa [show ((x.toNat : Nat) : Int) = x by omega] at h
  · intro h
    refine ⟨fun t ht => h.mem_iff.2 ((risI_mem n t).2 (by omega)), by rw [h.length_eq, risI_len]⟩
section
variable (s : Int → Int) (z : List Int → Int)
def bestP (n : Nat) : List Int := (bstB s z (risI n)).1
theorem bestP_right (n : Nat) : rightP n (bestP s z n) := by
  obtain ⟨h1, h2, h3⟩ := bstB_perm s z _ (risI n) rfl (risI_nodup n)
  refine ⟨fun t ht => (h3 t).2 ((risI_mem n t).2 (by omega)), ?_⟩
  unfold bestP
  rw [h2, risI_len]
def gKey (out : List Int) (t : Int) : Int := if out = [] then -(s t) else z (out ++ [t])
def minAt (h : Int → Int) (l : List Int) : Nat → Nat
  | 0 => 0
  | j + 1 => if h (l.getD j 0) < h (l.getD (minAt h l j) 0) then j else minAt h l j
theorem minAt_lt (h : Int → Int) (l : List Int) : ∀ j, j ≤ l.length → l ≠ [] → minAt h l j < l.length
  | 0, _, h0 => by have : l.length ≠ 0 := fun e => h0 (List.eq_nil_of_length_eq_zero e); rw [minAt]; omega
  | j + 1, hj, h0 => by
    rw [minAt]
    split
    · omega
    · exact minAt_lt h l j (by omega) h0
def greedB : Nat → List Int → List Int → List Int
  | 0, out, _ => out
  | k + 1, out, left => if left = [] then out else greedB k (out ++ [left.getD (minAt (gKey s z out) left left.length) 0]) (wout left (left.getD (minAt (gKey s z out) left left.length) 0))
theorem greedB_perm : ∀ (k : Nat) (out left : List Int), left.Nodup → left.length ≤ k → (greedB s z k out left).Perm (out ++ left)
  | 0, out, left, _, h => by
    have h0 : left = [] := List.eq_nil_of_length_eq_zero (by omega)
    subst h0
    simp [greedB]
  | k + 1, out, left, hn, h => by
    rw [greedB]
    split
    · rename_i h0
      rw [h0, List.append_nil]
    · rename_i h0
      have hm := minAt_lt (gKey s z out) left left.length (Nat.le_refl _) h0
      generalize hi : minAt (gKey s z out) left left.length = i at *
      rw [List.getD_eq_getElem?_getD, List.getElem?_eq_getElem hm]
      have ht : left[i] ∈ left := List.getElem_mem hm
      have hl := wout_len hn ht
      simp only [Option.getD_some]
      refine (greedB_perm k _ _ (wout_nodup hn _) (by omega)).trans ?_
      rw [List.append_assoc]
      refine List.Perm.append_left _ ?_
      refine List.Perm.symm (full_perm _ _ ?_ (fun x hx => ?_) (by simp; omega))
      · rw [List.singleton_append, List.nodup_cons]
        exact ⟨fun h => ((wout_mem _ _ _).1 h).2 rfl, wout_nodup hn _⟩
      · rcases List.mem_append.1 hx with hx | hx
        · rw [List.mem_singleton.1 hx]; exact ht
        · exact ((wout_mem _ _ _).1 hx).1
def greedP (n : Nat) : List Int := greedB s z n [] (risI n)
theorem greedP_right (n : Nat) : rightP n (greedP s z n) := by
  have h := greedB_perm s z n [] (risI n) (risI_nodup n) (by rw [risI_len]; omega)
  unfold greedP
  exact rightP_perm.2 (by simpa using h)
end
/-- Without the one at a place: without that one, where each is there once. -/
theorem erase_wout : ∀ (l : List Int), l.Nodup → ∀ (i : Nat) (h : i < l.length), l.take i ++ l.drop (i + 1) = wout l l[i]
  | a :: l, hn, 0, _ => by
    have hn' := List.nodup_cons.1 hn
    unfold wout
    simp only [List.take_zero, List.nil_append, List.drop_succ_cons, List.drop_zero, List.getElem_cons_zero]
    rw [List.filter_cons, if_neg (by simp)]
    exact (List.filter_eq_self.2 fun x hx => by
      have : x ≠ a := fun e => hn'.1 (e ▸ hx)
      simp [this]).symm
  | a :: l, hn, i + 1, h => by
    have hn' := List.nodup_cons.1 hn
    have hi : i < l.length := by simpa using h
    have ih := erase_wout l hn'.2 i hi
    have hne : a ≠ l[i] := fun e => hn'.1 (e ▸ List.getElem_mem hi)
    unfold wout at ih ⊢
    simp only [List.take_succ_cons, List.cons_append, List.drop_succ_cons, List.getElem_cons_succ]
    rw [List.filter_cons, if_pos (by simp [hne]), ih]
end Go.Proofs.YtbglmcebkpkccaaGreatDoor
/- Layer 29: slices.DeleteFunc over numbers of one's own, with the closure that tells which tables there are not. Condition: the conditions of the query in memory, below the row. -/
namespace Go.Proofs.YtbglmcebkpkccaaGreatDoor
open Go.RowKit
attribute [local go_sem] more_cell more_frozen more_more more_setCell more_of_drew more_of_drewN lt_more le_more past_cell past_cell2 past_frozen past_frozen2 past_setCell past_setCell2 mid_cell mid_frozen mid_setCell
attribute [local go_sem] fldC0 fldC1 fldS0
attribute [local go_sem ↓] Go.wp_at_zero Go.wp_at_succ
/-- The tables of a set that there are: slices.DeleteFunc with the query's closure, over numbers of one's own. -/
theorem delfunc_own (x : Nm) (l : List Int) (hz : l.length ≤ 1000000) (A : Option Addr) (c0 base : Nat) (g : Nat) (X : Option Addr) (kx : Nat) (B : Option Addr) (j : Nat) (C : Option Addr) (c : Nat) (D : Option Addr) (d : Nat) (E : Option Addr) (e : Nat) (w : World) (hb : Blok w g 39 (nmC x X kx B j C c D d E e)) (hgb : g < base)
    (ho : w.ownsRow base 3 1 (.slice A l.length c0) l.length (iV l)) :
    Calls Tryz.prog 48 #[.slice A l.length c0, .func (.func 50) #[] #[.pointer (some ⟨g, 0, none⟩)]] w fun en w' => en = .returned (.slice A (l.filter fun t => !noTab x.scan.length t).length c0) ∧
      w'.ownsRow base 3 1 (.slice A (l.filter fun t => !noTab x.scan.length t).length c0) (l.filter fun t => !noTab x.scan.length t).length (iV (l.filter fun t => !noTab x.scan.length t)) ∧ w.grownBy w' (Value.slice A l.length c0).ownBlock := by
  have HP : ∀ (t : Int) (W : World), Blok W g 39 (nmC x X kx B j C c D d E e) → FnGives Tryz.prog 50 #[.pointer (some ⟨g, 0, none⟩)] #[.int .i64 t] (.bool (noTab x.scan.length t)) W := fun t W hW =>
    (knotab_any x t g X kx B j C c D d E e W hW).mono fun e w' h => ⟨h.1, 0, h.2⟩
  generalize noTab x.scan.length = p at *
  have hfl := List.length_filter_le (fun t => !p t) l
  rcases ho.2 with ⟨h1, h2⟩ | ⟨g', cap, cur, h1, hbase, hgb', r1, r2, r3, r4⟩
  · injection h1 with h1 h1' h1''
    subst h1 h1''
    have h0 : l = [] := List.eq_nil_of_length_eq_zero h2
    subst h0
    clear HP hb
    go_enter Tryz.func48, Tryz.ntmps48
    go_wp2_with (go_at_call 89; refine (Tryz.slices_IndexFunc_empty (α := Int) none 0 _ w).mono ?_; rintro e w' ⟨rfl, rfl⟩)
    go_ret
    exact ⟨rfl, ho, World.grownBy.refl _ _⟩
  · injection h1 with h1 _ h1''
    subst h1 h1''
    have hH : Go.Sort.Holds (Value.int .i64) w g' 0 l.toArray := holds_of_blockI hgb' (by simpa [iV] using r4)
    have eg : ∀ args w, (callFunc 50 args).run Tryz.prog w = .ok (.enter 50 args) w := enters_of Tryz.func50 (by kernel_rfl) rfl
    have hpa : PredAt Tryz.prog 50 #[.pointer (some ⟨g, 0, none⟩)] (Value.int .i64) p w := fun W t hbel => HP t W (hb.grew (Grew.of_below hbel))
    have hpo : PredOver Tryz.prog 50 #[.pointer (some ⟨g, 0, none⟩)] (Value.int .i64) p g' 0 l.toArray.size w := fun n os dk t _ => HP t _ (hb.grown (grownBy_sortedI dk) (fun e => by injection e with e; omega))
    refine (Tryz.slices_DeleteFunc (Value.int .i64) (fun _ => rfl) p 50 #[.pointer (some ⟨g, 0, none⟩)] eg 0 Tryz.zeroValue3 g' 0 c0 l.toArray w hpa hpo hH (by simp; omega) (by simp; omega)).mono ?_
    rintro en w' ⟨rfl, q, rfl⟩
    refine ⟨rfl, ?_, ?_⟩
    · have := Lib.ownsRow_putRow (q := q) (k := (l.filter fun t => !p t).length) (ys := (l.filter fun t => !p t) ++ List.replicate (l.length - (l.filter fun t => !p t).length) 0) ho (by rw [List.length_append, List.length_replicate]; omega) hfl
      rw [List.take_left] at this
      exact this
    · have := grownBy_sortedI (w := w) (g := g') (n := q) (os := #[]) ((l.filter fun t => !p t) ++ List.replicate (l.length - (l.filter fun t => !p t).length) 0).toArray
      rw [Sort.grow_empty] at this
      exact this
end Go.Proofs.YtbglmcebkpkccaaGreatDoor
namespace Go.Proofs.YtbglmcebkpkccaaGreatDoor
open Go.RowKit
attribute [local go_sem] more_cell more_frozen more_more more_setCell more_of_drew more_of_drewN lt_more le_more past_cell past_cell2 past_frozen past_frozen2 past_setCell past_setCell2 mid_cell mid_frozen mid_setCell
attribute [local go_sem] fldC0 fldC1 fldS0
attribute [local go_sem ↓] Go.wp_at_zero Go.wp_at_succ
/-- What is gathered of tables, and of pairs of them. -/
def SzAt (w : World) (sc : Int → Int) (f : Int → Int → Nat) (T : List Int) (v1 v2 i : Value) (wr : World) : Prop :=
  ∃ (n m : Nat) (A1 : Option Addr) (c1 : Nat) (A2 : Option Addr) (c2 : Nat), n ≤ T.length ∧ m = (pairsTo f T n).length ∧ i = .int .i64 n ∧ v1 = .slice A1 n c1 ∧ v2 = .slice A2 m c2 ∧ Grew w wr ∧
    wr.ownsRow w.heap.size 3 1 (.slice A1 n c1) n (iV ((T.take n).map sc)) ∧ wr.ownsRow w.heap.size 43 1 (.slice A2 m c2) m (fV (pairsTo f T n))
/-- The pairs of one table. -/
def SzIn (w : World) (m0 : Nat) (L : List Nat) (f : Int → Nat) (T : List Int) (A1 : Option Addr) (n c1 : Nat) (xs : List Value) (v2 i : Value) (wr : World) : Prop :=
  ∃ (q m : Nat) (A2 : Option Addr) (c2 : Nat), q ≤ T.length ∧ m = m0 + q ∧ i = .int .i64 q ∧ v2 = .slice A2 m c2 ∧ Grew w wr ∧
    wr.ownsRow w.heap.size 3 1 (.slice A1 n c1) n xs ∧ wr.ownsRow w.heap.size 43 1 (.slice A2 m c2) m (fV (L ++ (T.take q).map f))
set_option maxHeartbeats 8000000 in
set_option maxRecDepth 100000 in
theorem costSize_any (l : List Sst) (hl : l.length ≤ 1000000) (hm : LitSd l) (x : Nm) (hx : ∀ l ∈ x.scan, l.length ≤ 1000000) (hx1 : x.scan.length ≤ 1000) (hx2 : x.edges.length ≤ 1000000) (set : List Int) (hs : set.length ≤ 1000) (A : Option Addr) (k : Nat) (X : Option Addr) (kx : Nat) (B : Option Addr) (j : Nat) (C : Option Addr) (c : Nat) (D : Option Addr) (d : Nat) (E : Option Addr) (e : Nat) (S : Option Addr) (ks : Nat) (w : World)
    (ra : SstsR (PRow w) A l) (ht : TurnC w) (rn : XllR (PRow w) X x.scan) (re : EdsR (PRow w) B x.edges) (rs : Row w S (iV set)) :
    Gives Tryz.prog 16 #[.agg (nmC x X kx B j C c D d E e), .slice A l.length k, .slice S set.length ks] w (.int .i64 (sizeK (heldAll l) x.scan x.edges set)) := by
  have HH : Hid (∀ W, Grew w W → Calls Tryz.prog 39 #[.slice A l.length k] W (KheldF W (heldAll l))) := Lib.hid fun W hW => kheld_any l hl (fun s hs => (hm s hs).2) A k W (ra.grew hW)
  have HSc : Hid (∀ a W Z kB, Grew w W → SstsR (PRow W) Z (heldAll l) → Gives Tryz.prog 40 #[.slice Z (heldAll l).length kB, .agg (nmC x X kx B j C c D d E e), .int .i64 a] W (.int .i64 (scanK (heldAll l) x.scan a))) := Lib.hid fun a W Z kB hW hB => kscan_any (heldAll l) (heldAll_ok l) x hx a Z kB X kx B j C c D d E e W hB (ht.grew hW) (rn.grew hW)
  have HPr : Hid (∀ a b W Z kB, Grew w W → SstsR (PRow W) Z (heldAll l) → Gives Tryz.prog 46 #[.slice Z (heldAll l).length kB, .agg (nmC x X kx B j C c D d E e), .int .i64 a, .int .i64 b] W (.float .f64 (pairK (heldAll l) x.edges a b))) := Lib.hid fun a b W Z kB hW hB => kpair_any (heldAll l) (heldAll_ok l) x hx2 a b Z kB X kx B j C c D d E e W hB (re.grew hW)
  have HCl : Hid (∀ W, Grew w W → Calls Tryz.prog 49 #[.slice S set.length ks] W (OwnI W set)) := Lib.hid fun W hW => clone_ints set (by omega) S ks W (rs.grew hW)
  obtain ⟨W0, hW0⟩ : ∃ W0, W0 = w.alloc (.cells (nmC x X kx B j C c D d E e) 39) := ⟨_, rfl⟩
  have HG0 : Hid (Grew w W0) := Lib.hid (by rw [hW0]; exact (Grew.refl w).alloc _)
  have HX0 : Hid (Blok W0 w.heap.size 39 (nmC x X kx B j C c D d E e)) := Lib.hid (by rw [hW0]; exact Blok.new _ _ _ _ rfl)
  obtain ⟨fl, hfl⟩ : ∃ fl, fl = set.filter fun t => !noTab x.scan.length t := ⟨_, rfl⟩
  have hfn : fl.length ≤ 1000 := by rw [hfl]; exact Nat.le_trans (List.length_filter_le _ _) hs
  obtain ⟨T, hT⟩ : ∃ T, T = tabsK x.scan.length set := ⟨_, rfl⟩
  have HT : Hid (Lib.compact (sortI fl) = T) := Lib.hid (by rw [compact_sort, hT, tabsK_set, hfl]; rfl)
  have hTn : T.length ≤ 1000 := by rw [hT]; exact Nat.le_trans (tabsK_len _ _) hx1
  have hsc : ∀ q ∈ pairsK (pairK (heldAll l) x.edges) T, q ≤ 4607182418800017408 := pairsK_mem (fun a b => andK_le _) T
  have hpl : (pairsK (pairK (heldAll l) x.edges) T).length ≤ 1000000 := Nat.le_trans (pairsK_len _ T) (by have := Nat.mul_le_mul hTn hTn; omega)
  have hle := andK_le (pairsK (pairK (heldAll l) x.edges) T)
  have hres : sizeK (heldAll l) x.scan x.edges set = scaleI (foldM (T.map (scanK (heldAll l) x.scan)) 1) (andF (pairsK (pairK (heldAll l) x.edges) T) 4607182418800017408) := by rw [hT]; rfl
  rw [hres]
  have HMu : Hid (∀ W Z z, Row W Z (iV (T.map (scanK (heldAll l) x.scan))) → Calls Tryz.prog 54 #[.slice Z T.length z] W fun e w' => e = .returned (.int .i64 (foldM (T.map (scanK (heldAll l) x.scan)) 1)) ∧ w' = W) := Lib.hid fun W Z z hz => by
    have := mul_any (T.map (scanK (heldAll l) x.scan)) Z z (by rw [List.length_map]; omega) W hz
    rwa [List.length_map] at this
  have HAn : Hid (∀ W Z z m, m = (pairsK (pairK (heldAll l) x.edges) T).length → Row W Z (fV (pairsK (pairK (heldAll l) x.edges) T)) → Calls Tryz.prog 55 #[.slice Z m z] W fun e w' => e = .returned (.float .f64 (andF (pairsK (pairK (heldAll l) x.edges) T) 4607182418800017408)) ∧ w' = W) := Lib.hid fun W Z z m hm hz => by
    rw [hm]
    exact fo_and_any _ Z z hpl (fun q hq => by have := hsc q hq; omega) W hz
  have HSl : Hid (∀ W, Calls Tryz.prog 53 #[.int .i64 (foldM (T.map (scanK (heldAll l) x.scan)) 1), .float .f64 (andF (pairsK (pairK (heldAll l) x.edges) T) 4607182418800017408)] W fun e w' => e = .returned (.int .i64 (scaleI (foldM (T.map (scanK (heldAll l) x.scan)) 1) (andF (pairsK (pairK (heldAll l) x.edges) T) 4607182418800017408))) ∧ w' = W) := Lib.hid fun W => scale_any _ _ (by omega) W
  clear hsc hpl hle hres
  have HPe : Hid (pairsTo (pairK (heldAll l) x.edges) T T.length = pairsK (pairK (heldAll l) x.edges) T) := Lib.hid (pairsTo_all _ T)
  have HDel : Hid (∀ (W : World) (A : Option Addr) (c0 base : Nat), Blok W w.heap.size 39 (nmC x X kx B j C c D d E e) → w.heap.size < base → W.ownsRow base 3 1 (.slice A set.length c0) set.length (iV set) → Calls Tryz.prog 48 #[.slice A set.length c0, .func (.func 50) #[] #[.pointer (some ⟨w.heap.size, 0, none⟩)]] W fun en w' => en = .returned (.slice A fl.length c0) ∧ w'.ownsRow base 3 1 (.slice A fl.length c0) fl.length (iV fl) ∧ W.grownBy w' (Value.slice A set.length c0).ownBlock) := Lib.hid fun W A c0 base h1 h2 h3 => by
    rw [hfl]
    exact delfunc_own x set (by omega) A c0 base w.heap.size X kx B j C c D d E e W h1 h2 h3
  have HSo : Hid (∀ (W : World) (A : Option Addr) (c0 base : Nat), W.ownsRow base 3 1 (.slice A fl.length c0) fl.length (iV fl) → Calls Tryz.prog 51 #[.slice A fl.length c0] W fun e w' => e = .returned (.tuple #[]) ∧ w'.ownsRow base 3 1 (.slice A fl.length c0) fl.length (iV (sortI fl)) ∧ W.grownBy w' (Value.slice A fl.length c0).ownBlock) := Lib.hid fun W A c0 base h => sort_own fl (by omega) A c0 base W h
  have HCo : Hid (∀ (W : World) (A : Option Addr) (c0 base : Nat), W.ownsRow base 3 1 (.slice A fl.length c0) fl.length (iV (sortI fl)) → Calls Tryz.prog 52 #[.slice A fl.length c0] W fun e w' => e = .returned (.slice A T.length c0) ∧ w'.ownsRow base 3 1 (.slice A T.length c0) T.length (iV T) ∧ W.grownBy w' (Value.slice A fl.length c0).ownBlock) := Lib.hid fun W A c0 base h => by
    have hl2 : fl.length = (sortI fl).length := (sortI_len fl).symm
    rw [← HT.out]
    rw [hl2] at h ⊢
    exact compact_own _ (by omega) A c0 base W h
  have hW0s : w.heap.size < W0.heap.size := by rw [hW0, World.size_alloc]; omega
  have HW0s := Lib.hid hW0s
  clear HT hT hfl hfn hm hl hx hx1 hx2 hs ra ht rn re rs hW0s
  generalize scaleI (foldM (T.map (scanK (heldAll l) x.scan)) 1) (andF (pairsK (pairK (heldAll l) x.edges) T) 4607182418800017408) = res at *
  generalize andF (pairsK (pairK (heldAll l) x.edges) T) 4607182418800017408 = qa at *
  generalize foldM (T.map (scanK (heldAll l) x.scan)) 1 = qm at *
  generalize scanK (heldAll l) x.scan = sc at *
  generalize pairK (heldAll l) x.edges = f at *
  generalize hN : (heldAll l).length = N at *
  generalize heldAll l = hd at *
  have HN := Lib.hid hN
  clear hN
  have HTn := Lib.hid hTn
  clear hTn
  unfold KheldF at HH
  unfold nmC at HSc HPr hW0 ⊢
  unfold Gives
  go_enter Tryz.func16, Tryz.ntmps16
  go_upto_region 1 with fail
  rw [← hW0]
  clear hW0
  go_upto_region 5 with (first | (go_at_call 39; (with_reducible refine (HH.out _ HG0.out).mono ?_); rintro en w1 ⟨Z, kB, rfl, hg1, hB⟩; rw [HN.out]; have HGa := Lib.hid (HG0.out.trans hg1); have HGb := Lib.hid hg1; have HBa := Lib.hid hB; have HXa := Lib.hid (HX0.out.grew hg1); clear hg1 hB) | (go_at_call 49; (with_reducible refine (HCl.out _ HGa.out).mono ?_); rintro en w2 ⟨S2, c2, rfl, hg2, ho2⟩; have HGc := Lib.hid hg2; have HOc := Lib.hid ho2; clear hg2 ho2) | (go_at_call 48; (with_reducible refine (HDel.out _ _ _ _ (HXa.out.grew HGc.out) (Nat.lt_of_lt_of_le HW0s.out HGb.out.size) HOc.out).mono ?_); rintro en w3 ⟨rfl, ho3, hg3⟩; have HGd := Lib.hid (HGc.out.grown hg3 (own_base HOc.out)); have HOd := Lib.hid ho3; clear ho3 hg3) | (go_at_call 51; (with_reducible refine (HSo.out _ _ _ _ HOd.out).mono ?_); rintro en w4 ⟨rfl, ho4, hg4⟩; have HGe := Lib.hid (HGd.out.grown hg4 (own_base HOd.out)); have HOe := Lib.hid ho4; clear ho4 hg4) | (go_at_call 52; (with_reducible refine (HCo.out _ _ _ _ HOe.out).mono ?_); rintro en w5 ⟨rfl, ho5, hg5⟩; have HGf := Lib.hid (HGe.out.grown hg5 (own_base HOe.out)); have HOf := Lib.hid ho5; clear ho5 hg5))
  have HSd : Hid (SstsR (PRow w5) Z hd) := Lib.hid (HBa.out.grew HGf.out)
  have HX5 : Hid (Blok w5 w.heap.size 39 (nmC x X kx B j C c D d E e)) := Lib.hid (HXa.out.grew HGf.out)
  have HG5 : Hid (Grew w w5) := Lib.hid (HGa.out.trans HGf.out)
  have HR5 : Hid (Row w5 S2 (iV T)) := Lib.hid (own_rowI HOf.out)
  have hcap : T.length ≤ c2 := own_cap' HOf.out
  have HS1 : Hid (∀ a W, Grew w5 W → Gives Tryz.prog 40 #[.slice Z N kB, .agg #[.int .i64 x.core, .slice X x.scan.length kx, .slice B x.edges.length j, .slice C x.rest.length c, .slice D x.late.length d, .slice E x.wh.length e], .int .i64 a] W (.int .i64 (sc a))) := Lib.hid fun a W hW => HSc.out a W Z kB (HG5.out.trans hW) (HSd.out.grew hW)
  have HP1 : Hid (∀ a b W, Grew w5 W → Gives Tryz.prog 46 #[.slice Z N kB, .agg #[.int .i64 x.core, .slice X x.scan.length kx, .slice B x.edges.length j, .slice C x.rest.length c, .slice D x.late.length d, .slice E x.wh.length e], .int .i64 a, .int .i64 b] W (.float .f64 (f a b))) := Lib.hid fun a b W hW => HPr.out a b W Z kB (HG5.out.trans hW) (HSd.out.grew hW)
  clear HSc HPr HSd HGa HGb HBa HXa HGc HOc HGd HOd HGe HOe HGf HOf HH HCl HDel HSo HCo HG0 HX0 HW0s
  go_wp2
  go_loopw [9, 10, 27] (fun v1 v2 i wr => SzAt w5 sc f T v1 v2 i wr) (fun _ _ i _ => T.length - (intOf i).toNat)
  case atStart => exact ⟨0, 0, none, 0, none, 0, Nat.zero_le _, by rw [pairsTo_zero]; rfl, rfl, rfl, rfl, Grew.refl _, own_none _ _ _ _, by rw [pairsTo_zero]; exact own_none _ _ _ _⟩
  case round =>
    obtain ⟨n, m, A1, c1, A2, cc2, hn, hm, rfl, rfl, rfl, hg, ho1, ho2⟩ := hrel
    have HG := Lib.hid hg
    have HO1 := Lib.hid ho1
    have HO2 := Lib.hid ho2
    have hTn := HTn.out
    have hmb : m ≤ 1000000 := by rw [hm]; exact Nat.le_trans (pairsTo_len f T n) (by have := Nat.mul_le_mul hTn (Nat.le_trans hn hTn); omega)
    have HM := Lib.hid hm
    clear hg ho1 ho2 hm
    by_cases hlt : n < T.length
    · obtain ⟨b, o, rfl, hb, hc⟩ := rowI_at (HR5.out.grew HG.out) hlt
      have HTs : Hid (iV ((T.take (n + 1)).map sc) = iV ((T.take n).map sc) ++ [.int .i64 (sc T[n])]) := Lib.hid (by rw [List.take_succ_eq_append_getElem hlt, List.map_append]; simp [iV])
      have HPs : Hid (pairsTo f T (n + 1) = pairsTo f T n ++ (T.drop (n + 1)).map (f T[n])) := Lib.hid (pairsTo_succ f T n hlt)
      obtain ⟨x0, m0, m1, m2, m3, m4, m5⟩ := nm6 (HX5.out.grew HG.out)
      have HSa : Hid (∀ W, Grew w5 W → Gives Tryz.prog 40 #[.slice Z N kB, .agg #[.int .i64 x.core, .slice X x.scan.length kx, .slice B x.edges.length j, .slice C x.rest.length c, .slice D x.late.length d, .slice E x.wh.length e], .int .i64 T[n]] W (.int .i64 (sc T[n]))) := Lib.hid fun W hW => HS1.out T[n] W hW
      have HPa : Hid (∀ b W, Grew w5 W → Gives Tryz.prog 46 #[.slice Z N kB, .agg #[.int .i64 x.core, .slice X x.scan.length kx, .slice B x.edges.length j, .slice C x.rest.length c, .slice D x.late.length d, .slice E x.wh.length e], .int .i64 T[n], .int .i64 b] W (.float .f64 (f T[n] b))) := Lib.hid fun b W hW => HP1.out T[n] b W hW
      generalize sc T[n] = sa at *
      generalize f T[n] = fa at *
      generalize T[n] = ta at *
      have hlz : (n : Int) + 1 ≤ (T.length : Int) := by omega
      have hlc : (T.length : Int) ≤ (c2 : Int) := by omega
      have HDl : Hid ((T.drop (n + 1)).length = T.length - (n + 1)) := Lib.hid (by rw [List.length_drop])
      have HRo : Hid (∀ W, Grew w5 W → Row W (some ⟨b, o, none⟩) (iV T)) := Lib.hid fun W hW => HR5.out.grew hW
      go_wp2_with (first | (go_at_call 40; (with_reducible refine (HSa.out _ HG.out).grows.mono ?_); rintro en w8 ⟨rfl, hg8⟩; have HG8 := Lib.hid (HG.out.trans hg8); have HO18 := Lib.hid (own_grewE HO1.out hg8); have HO28 := Lib.hid (own_grewE HO2.out hg8); clear hg8) | (at_builtin; refine wpList_appB rfl _ _ 31 3 1 rfl w5.heap.size (.int .i64 0) 8 Tryz.underlying31 infoI rfl (by decide) (by decide) _ n (iV ((T.take n).map sc)) rfl (own_alloc HO18.out (.cells #[.int .i64 sa] 3)) _ 1 1 [.int .i64 sa] rfl rfl (row_one _ _ _ _ rfl) (by simp [Value.oneCell']) (by omega) (by rw [World.size_alloc]; have := HG8.out.size; omega) ?_; intro A9 c9 w9 ho9 hb9; rw [← HTs.out] at ho9; have HG9 := Lib.hid ((HG8.out.alloc (.cells #[.int .i64 sa] 3)).grown hb9 (own_base HO18.out)); have HO19 := Lib.hid ho9; have HO29 := Lib.hid (own_grown (own_alloc HO28.out _) hb9 (own_apart (own_alloc HO28.out (.cells #[.int .i64 sa] 3)) (own_alloc HO18.out (.cells #[.int .i64 sa] 3)) (by decide))); clear ho9 hb9))
      case inl h =>
        subst h
        clear HO1 HO2 HO18 HO28 HG8 x0 m0 m1 m2 m3 m4 m5 hb hc
        have HCe : Hid (∀ W, Grew w5 W → ∀ q (hq : q < (T.drop (n + 1)).length), b < W.heap.size ∧ W.cell? ⟨b, o + q, none⟩ = some (.int .i64 (T.drop (n + 1))[q])) := Lib.hid fun W hW q hq => by
          have h1 : n + 1 + q < T.length := by rw [List.length_drop] at hq; omega
          obtain ⟨b', o', he, h2, h3⟩ := rowI_at (HRo.out W hW) h1
          injection he with he
          injection he with e1 e2
          subst e1 e2
          exact absurd h1 (by omega)
        skip
        clear HRo HR5 HSa
        generalize hD : T.drop (n + 1) = Dd at *
        clear hD
        generalize hdl : T.length - (n + 1) = dl at *
        have HDT : Hid (T.length = n + 1 + dl) := Lib.hid (by omega)
        clear hdl
        go_loopw [10, 44] (fun v2 i wr => SzIn w5 m (pairsTo f T n) fa Dd A9 (n + 1) c9 (iV ((T.take (n + 1)).map sc)) v2 i wr) (fun _ i _ => dl - (intOf i).toNat)
        case atStart => exact ⟨0, m, A2, cc2, Nat.zero_le _, rfl, rfl, rfl, HG9.out, HO19.out, by rw [List.take_zero, List.map_nil, List.append_nil]; exact HO29.out⟩
        case round =>
          obtain ⟨q, m', A3, c3, hq, rfl, rfl, rfl, hg, ho1, ho2⟩ := hrel
          have HG := Lib.hid hg
          have HP1' := Lib.hid ho1
          have HP2' := Lib.hid ho2
          clear hg ho1 ho2 HO19 HO29 HG9
          have hDl := HDl.out
          have hDT := HDT.out
          by_cases hlt2 : q < dl
          · obtain ⟨hb, hc⟩ := HCe.out _ HG.out q (by omega)
            have HTs2 : Hid (fV (pairsTo f T n ++ (Dd.take (q + 1)).map fa) = fV (pairsTo f T n ++ (Dd.take q).map fa) ++ [.float .f64 (fa (Dd[q]'(by omega)))]) := Lib.hid (by rw [List.take_succ_eq_append_getElem (by omega), List.map_append, ← List.append_assoc]; simp [fV])
            obtain ⟨x0, m0, m1, m2, m3, m4, m5⟩ := nm6 (HX5.out.grew HG.out)
            generalize Dd[q]'(by omega) = tb at *
            have HPb : Hid (∀ W, Grew w5 W → Gives Tryz.prog 46 #[.slice Z N kB, .agg #[.int .i64 x.core, .slice X x.scan.length kx, .slice B x.edges.length j, .slice C x.rest.length c, .slice D x.late.length d, .slice E x.wh.length e], .int .i64 ta, .int .i64 tb] W (.float .f64 (fa tb))) := Lib.hid fun W hW => HPa.out tb W hW
            generalize fa tb = fq at *
            have hq3 : q + 1 ≤ 1000 := by omega
            clear hDl hDT
            go_wp2_with (first | (go_at_call 46; (with_reducible refine (HPb.out _ HG.out).grows.mono ?_); rintro en w8 ⟨rfl, hg8⟩; have HG8 := Lib.hid (HG.out.trans hg8); have HO18 := Lib.hid (own_grewE HP1'.out hg8); have HO28 := Lib.hid (own_grewE HP2'.out hg8); clear hg8) | (at_builtin; refine wpList_appB rfl _ _ 75 43 1 rfl w5.heap.size (.float .f64 0) 8 Tryz.underlying75 infoFl rfl (by decide) (by decide) _ (m + q) (fV (pairsTo f T n ++ (Dd.take q).map fa)) rfl (own_alloc HO28.out (.cells #[.float .f64 fq] 43)) _ 1 1 [.float .f64 fq] rfl rfl (row_one _ _ _ _ rfl) (by simp [Value.oneCell']) (by have := HDT.out; omega) (by rw [World.size_alloc]; have := HG8.out.size; omega) ?_; intro A9' c9' w9' ho9 hb9; rw [← HTs2.out] at ho9; have HG9' := Lib.hid ((HG8.out.alloc (.cells #[.float .f64 fq] 43)).grown hb9 (own_base HO28.out)); have HO29' := Lib.hid ho9; have HO19' := Lib.hid (own_grown (own_alloc HO18.out _) hb9 (own_apart (own_alloc HO18.out (.cells #[.float .f64 fq] 43)) (own_alloc HO28.out (.cells #[.float .f64 fq] 43)) (by decide))); clear ho9 hb9))
            exact ⟨⟨q + 1, m + (q + 1), A9', c9', by have := HDl.out; omega, rfl, by go_num, rfl, HG9'.out, HO19'.out, HO29'.out⟩, by simp only [intOf]; omega⟩
          · obtain rfl : q = dl := by omega
            have HPf : Hid (pairsTo f T n ++ (Dd.take q).map fa = pairsTo f T (n + 1)) := Lib.hid (by rw [List.take_of_length_le (by omega), HPs.out])
            have HMf : Hid (m + q = (pairsTo f T (n + 1)).length) := Lib.hid (by rw [HPs.out, List.length_append, List.length_map, ← HM.out, hDl])
            rw [HPf.out] at HP2'
            have hn3 : n + 1 ≤ 1000 := by omega
            clear hDl hDT hlt2 hq
            go_wp2
            skip
            exact ⟨⟨n + 1, m + q, A9, c9, A3, c3, by have := HDT.out; omega, HMf.out, by go_num, rfl, rfl, HG.out, HP1'.out, HP2'.out⟩, by have := HDT.out; simp only [intOf]; omega⟩
      case inr h =>
        skip
        clear HO1 HO2 HO18 HO28 HG8 x0 m0 m1 m2 m3 m4 m5 hb hc
        have HCe : Hid (∀ W, Grew w5 W → ∀ q (hq : q < (T.drop (n + 1)).length), b < W.heap.size ∧ W.cell? ⟨b, o + (n + 1) + q, none⟩ = some (.int .i64 (T.drop (n + 1))[q])) := Lib.hid fun W hW q hq => by
          have h1 : n + 1 + q < T.length := by rw [List.length_drop] at hq; omega
          obtain ⟨b', o', he, h2, h3⟩ := rowI_at (HRo.out W hW) h1
          injection he with he
          injection he with e1 e2
          subst e1 e2
          rw [List.getElem_drop]; exact ⟨h2, by rw [Nat.add_assoc o (n + 1) q]; exact h3⟩
        clear h
        clear HRo HR5 HSa
        generalize hD : T.drop (n + 1) = Dd at *
        clear hD
        generalize hdl : T.length - (n + 1) = dl at *
        have HDT : Hid (T.length = n + 1 + dl) := Lib.hid (by omega)
        clear hdl
        go_loopw [10, 44] (fun v2 i wr => SzIn w5 m (pairsTo f T n) fa Dd A9 (n + 1) c9 (iV ((T.take (n + 1)).map sc)) v2 i wr) (fun _ i _ => dl - (intOf i).toNat)
        case atStart => exact ⟨0, m, A2, cc2, Nat.zero_le _, rfl, rfl, rfl, HG9.out, HO19.out, by rw [List.take_zero, List.map_nil, List.append_nil]; exact HO29.out⟩
        case round =>
          obtain ⟨q, m', A3, c3, hq, rfl, rfl, rfl, hg, ho1, ho2⟩ := hrel
          have HG := Lib.hid hg
          have HP1' := Lib.hid ho1
          have HP2' := Lib.hid ho2
          clear hg ho1 ho2 HO19 HO29 HG9
          have hDl := HDl.out
          have hDT := HDT.out
          by_cases hlt2 : q < dl
          · obtain ⟨hb, hc⟩ := HCe.out _ HG.out q (by omega)
            have HTs2 : Hid (fV (pairsTo f T n ++ (Dd.take (q + 1)).map fa) = fV (pairsTo f T n ++ (Dd.take q).map fa) ++ [.float .f64 (fa (Dd[q]'(by omega)))]) := Lib.hid (by rw [List.take_succ_eq_append_getElem (by omega), List.map_append, ← List.append_assoc]; simp [fV])
            obtain ⟨x0, m0, m1, m2, m3, m4, m5⟩ := nm6 (HX5.out.grew HG.out)
            generalize Dd[q]'(by omega) = tb at *
            have HPb : Hid (∀ W, Grew w5 W → Gives Tryz.prog 46 #[.slice Z N kB, .agg #[.int .i64 x.core, .slice X x.scan.length kx, .slice B x.edges.length j, .slice C x.rest.length c, .slice D x.late.length d, .slice E x.wh.length e], .int .i64 ta, .int .i64 tb] W (.float .f64 (fa tb))) := Lib.hid fun W hW => HPa.out tb W hW
            generalize fa tb = fq at *
            have hq3 : q + 1 ≤ 1000 := by omega
            clear hDl hDT
            go_wp2_with (first | (go_at_call 46; (with_reducible refine (HPb.out _ HG.out).grows.mono ?_); rintro en w8 ⟨rfl, hg8⟩; have HG8 := Lib.hid (HG.out.trans hg8); have HO18 := Lib.hid (own_grewE HP1'.out hg8); have HO28 := Lib.hid (own_grewE HP2'.out hg8); clear hg8) | (at_builtin; refine wpList_appB rfl _ _ 75 43 1 rfl w5.heap.size (.float .f64 0) 8 Tryz.underlying75 infoFl rfl (by decide) (by decide) _ (m + q) (fV (pairsTo f T n ++ (Dd.take q).map fa)) rfl (own_alloc HO28.out (.cells #[.float .f64 fq] 43)) _ 1 1 [.float .f64 fq] rfl rfl (row_one _ _ _ _ rfl) (by simp [Value.oneCell']) (by have := HDT.out; omega) (by rw [World.size_alloc]; have := HG8.out.size; omega) ?_; intro A9' c9' w9' ho9 hb9; rw [← HTs2.out] at ho9; have HG9' := Lib.hid ((HG8.out.alloc (.cells #[.float .f64 fq] 43)).grown hb9 (own_base HO28.out)); have HO29' := Lib.hid ho9; have HO19' := Lib.hid (own_grown (own_alloc HO18.out _) hb9 (own_apart (own_alloc HO18.out (.cells #[.float .f64 fq] 43)) (own_alloc HO28.out (.cells #[.float .f64 fq] 43)) (by decide))); clear ho9 hb9))
            exact ⟨⟨q + 1, m + (q + 1), A9', c9', by have := HDl.out; omega, rfl, by go_num, rfl, HG9'.out, HO19'.out, HO29'.out⟩, by simp only [intOf]; omega⟩
          · obtain rfl : q = dl := by omega
            have HPf : Hid (pairsTo f T n ++ (Dd.take q).map fa = pairsTo f T (n + 1)) := Lib.hid (by rw [List.take_of_length_le (by omega), HPs.out])
            have HMf : Hid (m + q = (pairsTo f T (n + 1)).length) := Lib.hid (by rw [HPs.out, List.length_append, List.length_map, ← HM.out, hDl])
            rw [HPf.out] at HP2'
            have hn3 : n + 1 ≤ 1000 := by omega
            clear hDl hDT hlt2 hq
            go_wp2
            skip
            exact ⟨⟨n + 1, m + q, A9, c9, A3, c3, by have := HDT.out; omega, HMf.out, by go_num, rfl, rfl, HG.out, HP1'.out, HP2'.out⟩, by have := HDT.out; simp only [intOf]; omega⟩
    · obtain rfl : n = T.length := by omega
      rw [List.take_length] at HO1
      rw [HPe.out] at HO2 HM
      obtain ⟨A1', c1', e1', hr1⟩ := own_row HO1.out
      injection e1' with e1' _ _
      subst e1'
      obtain ⟨A2', c2'', e2', hr2⟩ := own_row HO2.out
      injection e2' with e2' _ _
      subst e2'
      have HR1 := Lib.hid hr1
      have HR2 := Lib.hid hr2
      clear hr1 hr2 HO1 HO2
      go_wp2_with (first | (go_at_call 54; (with_reducible refine (HMu.out _ _ _ HR1.out).mono ?_); rintro en wz ⟨rfl, hwz⟩; subst hwz) | (go_at_call 55; (with_reducible refine (HAn.out _ _ _ _ HM.out HR2.out).mono ?_); rintro en wz ⟨rfl, hwz⟩; subst hwz) | (go_at_call 53; (with_reducible refine (HSl.out _).mono ?_); rintro en wz ⟨rfl, hwz⟩; subst hwz))
      go_ret
      exact ⟨rfl, HG5.out.trans HG.out⟩
end Go.Proofs.YtbglmcebkpkccaaGreatDoor
