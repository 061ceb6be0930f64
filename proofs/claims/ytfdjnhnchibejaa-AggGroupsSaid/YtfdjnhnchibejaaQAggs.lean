/- Layer 14: an aggregate of a list; the page's example. Condition: no more than a hundred thousand values. -/
import Derived.Test.YtfdjnhnchibejaaArith3
import Derived.Test.YtfdjnhnchibejaaKit2
import Derived.Deep.RegionHeld3
import Derived.Test.YtfdjnhnchibejaaEvalMath
import Derived.Test.YtfdjnhnchibejaaEval
import Derived.Deep.DeepCutAuto
import Derived.WalkMore

/- Layer 3: sums that go beyond 64 bits: what each call returns. Condition: not more than a thousand numbers. -/
namespace Go.Proofs.Ytfdjnhnchibejaa
open Go.RowKit
attribute [local go_sem] more_cell more_frozen more_more more_setCell more_of_drew more_of_drewN lt_more le_more past_cell past_cell2 past_frozen past_frozen2 past_setCell past_setCell2 mid_cell mid_frozen mid_setCell
attribute [local go_sem ↓] Go.wp_at_zero Go.wp_at_succ

set_option maxHeartbeats 1000000 in
theorem plusS_any (z n m : Int) (hm : isI m) (h0 : 0 ≤ n) (h1 : n ≤ 100000) (w : World) :
    Gives Try.prog 202 #[.agg #[.int .u64 (H z), .int .u64 (L z), .int .i64 n], .int .i64 m] w (.agg #[.int .u64 (H (z + m)), .int .u64 (L (z + m)), .int .i64 (n + 1)]) := by
  unfold Gives
  have HM := Lib.hid hm
  clear hm
  have hc : ∀ w' : World, Grew ((w.alloc (.cells #[.int .u64 (H z), .int .u64 (L z), .int .i64 n] 179)).alloc (.cells #[.int .u64 0, .int .u64 0, .int .i64 0] 179)) w' →
      w'.cell? ⟨w.heap.size, 0, none⟩ = some (.int .u64 (H z)) ∧ w'.cell? ⟨w.heap.size, 1, none⟩ = some (.int .u64 (L z)) ∧ w'.cell? ⟨w.heap.size, 2, none⟩ = some (.int .i64 n) := fun w' hg => by
    obtain ⟨x, rfl⟩ := hg
    rw [more_cell _ _ _ (by simp; omega), more_cell _ _ _ (by simp; omega), more_cell _ _ _ (by simp; omega)]
    refine ⟨?_, ?_, ?_⟩ <;> go_simp
  have HC := Lib.hid hc
  clear hc
  go_enter Try.func202, Try.ntmps202
  go_wp2
  go_region_held3 (fun w' => w'.cell? ⟨w.heap.size, 0, none⟩ = some (.int .u64 (H z)) ∧ w'.cell? ⟨w.heap.size, 1, none⟩ = some (.int .u64 (L z)) ∧ w'.cell? ⟨w.heap.size, 2, none⟩ = some (.int .i64 n)) (first | go_keep | (refine HC.out _ ?_; repeat (first | exact Grew.refl _ | apply Grew.more | apply Grew.alloc | apply Grew.drew)))
    (first | (go_at_call 227; refine (widen_any _ HM.out _).mono ?_; rintro e w' ⟨rfl, x, rfl⟩) | (go_at_call 226; refine (plus_any _ _ _).mono ?_; rintro e w' ⟨rfl, x, rfl⟩))
  all_goals go_wp2
  all_goals
    exact bodyPost_ret (v := .agg #[.int .u64 (H (z + m)), .int .u64 (L (z + m)), .int .i64 (n + 1)]) (by simp [results, Try.results202, go_sem]) rfl ⟨rfl, by show Grew w _; repeat (first | exact Grew.refl _ | apply Grew.more | apply Grew.alloc | apply Grew.drew)⟩
/-- The error of a sum: 0, or that it is too great. -/
def errF (z : Int) : Int := if fits z then 0 else 5
theorem errF_zero (z : Int) : (errF z == 0) = fits z := by unfold errF; cases fits z <;> rfl
theorem errF_five (z : Int) : (errF z == 5) = !fits z := by unfold errF; cases fits z <;> rfl
set_option maxHeartbeats 1000000 in
theorem totalS_any (z n : Int) (hz : isW z) (w : World) :
    Gives Try.prog 230 #[.agg #[.int .u64 (H z), .int .u64 (L z), .int .i64 n]] w (.tuple #[.int .i64 (fitV z), .int .i64 (errF z)]) := by
  unfold Gives
  have HZ := Lib.hid hz
  clear hz
  cases hf : fits z
  all_goals
    go_enter Try.func230, Try.ntmps230
    go_wp2_with (first | (go_at_call 245; refine (narrow_any _ HZ.out _).mono ?_; rintro e w' ⟨rfl, x, rfl⟩))
    go_ret2
    exact ⟨by simp [fitV, hf, errF], Grew.more ((Grew.refl w).alloc _) _⟩
/-- A sum as two parts: the upper one, and the lower one, of 32 bits. -/
def hi32 (z : Int) : Int := z / 4294967296
def lo32 (z : Int) : Int := z % 4294967296
end Go.Proofs.Ytfdjnhnchibejaa

/- Layer 3: the document's own sum of any numbers. Condition: not more than a million numbers, each of 64 bits. -/
namespace Go.Proofs.Ytfdjnhnchibejaa
open Go.RowKit
attribute [local go_sem] more_cell more_frozen more_more more_setCell more_of_drew more_of_drewN lt_more le_more past_cell past_cell2 past_frozen past_frozen2 past_setCell past_setCell2 mid_cell mid_frozen mid_setCell
attribute [local go_sem ↓] Go.wp_at_zero Go.wp_at_succ

def sumL (l : List Int) : Int := l.foldl (· + ·) 0
theorem sumL_take (l : List Int) (k : Nat) (h : k < l.length) : sumL (l.take (k + 1)) = sumL (l.take k) + l[k] := by
  unfold sumL
  rw [List.take_succ_eq_append_getElem h, List.foldl_append]
  rfl
theorem sum_bound (l : List Int) (hi : ∀ z ∈ l, isI z) (k : Nat) : -(9223372036854775808 * (k : Int)) ≤ sumL (l.take k) ∧ sumL (l.take k) ≤ 9223372036854775808 * (k : Int) := by
  induction k with
  | zero => simp [sumL]
  | succ k ih =>
    by_cases h : k < l.length
    · rw [sumL_take l k h]
      have hz := hi _ (List.getElem_mem h)
      unfold isI at hz
      omega
    · rw [List.take_of_length_le (by omega)]
      rw [List.take_of_length_le (by omega)] at ih
      omega
theorem big_next (S z : Int) (hz : isI z) (hS : -9223372036854775808000000 ≤ S ∧ S ≤ 9223372036854775808000000) :
    wrap64 (wrap64 (hi32 S + wrap64 ((wrap64 (z - lo32 z)).tdiv 4294967296)) + (lo32 S + lo32 z) / 4294967296) = hi32 (S + z) := by
  unfold isI at hz
  have e1 : z - lo32 z = 4294967296 * hi32 z := by unfold lo32 hi32; omega
  have e2 : wrap64 (4294967296 * hi32 z) = 4294967296 * hi32 z := by unfold wrap64 hi32; omega
  rw [e1, e2, Int.mul_tdiv_cancel_left _ (by omega)]
  unfold wrap64 hi32 lo32
  omega
theorem low_next (S z : Int) : (lo32 S + lo32 z) % 4294967296 = lo32 (S + z) := by unfold lo32; omega
theorem and_mask (z : Int) : bits .and .i64 z 4294967295 = lo32 z := by
  show IntKind.i64.wrap ((BitVec.ofInt 64 z &&& BitVec.ofInt 64 4294967295).toNat : Int) = _
  rw [BitVec.toNat_and, IntKind.wrap_i64]
  have e2 : (BitVec.ofInt 64 4294967295).toNat = 2 ^ 32 - 1 := by decide
  rw [e2, Nat.and_two_pow_sub_one_eq_mod, BitVec.toNat_ofInt]
  unfold lo32
  omega
def SumAt (l : List Int) (w : World) (T : TypeId) (i : Value) (wr : World) : Prop :=
  ∃ (k : Nat) (x : Xs), k ≤ l.length ∧ i = .int .i64 k ∧ wr = more ((w.alloc (.cells #[.int .i64 0, .int .i64 0] T)).alloc (.cells #[.int .i64 (hi32 (sumL (l.take k))), .int .i64 (lo32 (sumL (l.take k)))] T)) x
end Go.Proofs.Ytfdjnhnchibejaa

/- What an aggregate tells of values: its state, fed one by one, and by definition. No condition. -/
namespace Go.Proofs.Ytfdjnhnchibejaa
open Go.RowKit

/-- An aggregate's state: how many values, how many whole ones, whether one is no number, the numbers' sum and how many, the best one. -/
structure AccS where
  op : Int
  rows : Nat
  whole : Nat
  wrong : Bool
  z : Int
  zn : Nat
  best : Vl
def orderV (x y : Vl) : Int := ordV x.k x.i x.s y.k y.i y.s
def betterB (op : Int) (v b : Vl) : Bool := if op = 20 then decide (orderV v b < 0) else decide (0 < orderV v b)
def startS (op : Int) : AccS := ⟨op, 0, 0, false, 0, 0, zV⟩
def feedS (a : AccS) (v : Vl) : AccS :=
  if v.k = 0 then { a with rows := a.rows + 1 }
  else ⟨a.op, a.rows + 1, a.whole + 1, if v.k = 1 then a.wrong else true, if v.k = 1 then a.z + v.i else a.z, if v.k = 1 then a.zn + 1 else a.zn, if a.whole = 0 ∨ betterB a.op v a.best = true then v else a.best⟩
def accL (op : Int) (l : List Vl) : AccS := l.foldl feedS (startS op)
def resS (a : AccS) : Vl × Int :=
  if a.op = 17 then (⟨1, a.rows, (⟨#[]⟩ : ByteArray)⟩, 0)
  else if a.op = 18 then (⟨1, a.whole, (⟨#[]⟩ : ByteArray)⟩, 0)
  else if a.op = 19 then (if a.wrong = true then (zV, 3) else if a.whole = 0 then (zV, 0) else if fits a.z = true then (⟨1, a.z, (⟨#[]⟩ : ByteArray)⟩, 0) else (zV, 5))
  else if a.op = 20 ∨ a.op = 21 then (if a.whole = 0 then (zV, 0) else (a.best, 0))
  else (zV, 3)
/-- The values that are not null; the numbers; the best. -/
def someL (l : List Vl) : List Vl := l.filter fun v => !(v.k == 0)
def numL (l : List Vl) : List Int := (l.filter fun v => v.k == 1).map Vl.i
def bestL (op : Int) (l : List Vl) : Vl := (l.foldl (fun (p : Nat × Vl) v => (p.1 + 1, if p.1 = 0 ∨ betterB op v p.2 = true then v else p.2)) (0, zV)).2
theorem bestL_count (op : Int) (l : List Vl) : (l.foldl (fun (p : Nat × Vl) v => (p.1 + 1, if p.1 = 0 ∨ betterB op v p.2 = true then v else p.2)) (0, zV)).1 = l.length := by
  have : ∀ (l : List Vl) (q : Nat × Vl), (l.foldl (fun (p : Nat × Vl) v => (p.1 + 1, if p.1 = 0 ∨ betterB op v p.2 = true then v else p.2)) q).1 = q.1 + l.length := by
    intro l
    induction l with
    | nil => intro q; rfl
    | cons v l ih => intro q; rw [List.foldl_cons, ih]; simp; omega
  rw [this]; simp
theorem bestL_snoc (op : Int) (l : List Vl) (v : Vl) : bestL op (l ++ [v]) = if l.length = 0 ∨ betterB op v (bestL op l) = true then v else bestL op l := by
  have h := bestL_count op l
  unfold bestL at *
  rw [List.foldl_append, List.foldl_cons, List.foldl_nil]
  simp only [h]
theorem someL_snoc (l : List Vl) (v : Vl) : someL (l ++ [v]) = if v.k = 0 then someL l else someL l ++ [v] := by
  unfold someL
  rw [List.filter_append]
  by_cases h : v.k = 0
  · simp [h]
  · simp [h]
theorem numL_snoc (l : List Vl) (v : Vl) : numL (l ++ [v]) = if v.k = 1 then numL l ++ [v.i] else numL l := by
  unfold numL
  rw [List.filter_append, List.map_append]
  by_cases h : v.k = 1
  · simp [h]
  · simp [h]
theorem sumL_snoc (l : List Int) (z : Int) : sumL (l ++ [z]) = sumL l + z := by
  unfold sumL
  rw [List.foldl_append]
  rfl
/-- The state, by definition. -/
def defS (op : Int) (l : List Vl) : AccS := ⟨op, l.length, (someL l).length, (someL l).any fun v => !(v.k == 1), sumL (numL (someL l)), (numL (someL l)).length, bestL op (someL l)⟩
theorem accL_snoc (op : Int) (l : List Vl) (v : Vl) : accL op (l ++ [v]) = feedS (accL op l) v := by
  unfold accL
  rw [List.foldl_append]
  rfl
theorem list_snoc {α : Type} {P : List α → Prop} (h0 : P []) (h1 : ∀ l x, P l → P (l ++ [x])) (l : List α) : P l := by
  have : ∀ m : List α, P m.reverse := by
    intro m
    induction m with
    | nil => exact h0
    | cons x m ih => rw [List.reverse_cons]; exact h1 _ _ ih
  have h := this l.reverse
  rwa [List.reverse_reverse] at h
theorem accL_def (op : Int) (l : List Vl) : accL op l = defS op l := by
  refine list_snoc (P := fun l => accL op l = defS op l) rfl (fun l v ih => ?_) l
  rw [accL_snoc, ih]
  unfold feedS defS
  by_cases h0 : v.k = 0
  · rw [if_pos h0, someL_snoc, if_pos h0]
    simp
  · rw [if_neg h0, someL_snoc, if_neg h0]
    simp only [List.length_append, List.length_cons, List.length_nil, Nat.zero_add, AccS.mk.injEq, true_and]
    refine ⟨?_, ?_, ?_, ?_⟩
    · rw [List.any_append]
      by_cases h1 : v.k = 1
      · rw [if_pos h1]; simp [h1]
      · rw [if_neg h1]; simp [h1]
    · rw [numL_snoc]
      by_cases h1 : v.k = 1
      · rw [if_pos h1, if_pos h1, sumL_snoc]
      · rw [if_neg h1, if_neg h1]
    · rw [numL_snoc]
      by_cases h1 : v.k = 1
      · rw [if_pos h1, if_pos h1]; simp
      · rw [if_neg h1, if_neg h1]
    · rw [bestL_snoc]
/-- What it tells, by definition. -/
def tellS (op : Int) (l : List Vl) : Vl × Int := resS (defS op l)
theorem accL_op (op : Int) (l : List Vl) : (accL op l).op = op := by rw [accL_def]; rfl
theorem someL_le (l : List Vl) : (someL l).length ≤ l.length := List.length_filter_le _ _
theorem numL_le (l : List Vl) : (numL l).length ≤ l.length := by unfold numL; rw [List.length_map]; exact List.length_filter_le _ _
theorem accL_bounds (op : Int) (l : List Vl) : (accL op l).rows = l.length ∧ (accL op l).whole ≤ l.length ∧ (accL op l).zn ≤ l.length := by
  rw [accL_def]
  exact ⟨rfl, someL_le l, Nat.le_trans (numL_le _) (someL_le l)⟩
theorem someL_ok {l : List Vl} (h : ∀ v ∈ l, VlOk v) : ∀ v ∈ someL l, VlOk v := fun v hv => h v (List.mem_filter.1 hv).1
theorem numL_ok {l : List Vl} (h : ∀ v ∈ l, VlOk v) : ∀ z ∈ numL l, isI z := by
  intro z hz
  unfold numL at hz
  obtain ⟨v, hv, rfl⟩ := List.mem_map.1 hz
  exact isI_of_wf (h v (List.mem_filter.1 hv).1).2.1
end Go.Proofs.Ytfdjnhnchibejaa

/- Layer 14: an aggregate's steps. Condition: counts within the bounds that are named. -/
namespace Go.Proofs.Ytfdjnhnchibejaa
open Go.RowKit
attribute [local go_sem] more_cell more_frozen more_more more_setCell more_of_drew more_of_drewN lt_more le_more past_cell past_cell2 past_frozen past_frozen2 past_setCell past_setCell2 mid_cell mid_frozen mid_setCell
attribute [local go_sem ↓] Go.wp_at_zero Go.wp_at_succ

theorem code14_any (f : Int) (w : World) : Gives Try.prog 111 #[.int .i64 f] w (.int .i64 f) := by
  unfold Gives
  go_enter Try.func111, Try.ntmps111
  go_wp2
  go_ret
  exact ⟨rfl, by (show Grew _ _; repeat (first | exact Grew.refl _ | refine Grew.alloc ?_ _ | refine Grew.drew ?_ | refine Grew.more ?_ _))⟩
def accV (a : AccS) : Value := .agg #[.int .i64 a.op, .int .i64 a.rows, .int .i64 a.whole, .bool a.wrong, .int .u64 (H a.z), .int .u64 (L a.z), .int .i64 a.zn, .int .i64 a.best.k, .int .i64 a.best.i, .string a.best.s]
theorem better_any (op : Int) (x y : Vl) (w : World) : Gives Try.prog 203 #[.int .i64 op, vlV x, vlV y] w (.bool (betterB op x y)) := by
  obtain ⟨k, i, s⟩ := x
  obtain ⟨k', i', s'⟩ := y
  have HO : Hid (∀ W, Gives Try.prog 228 #[.agg #[.int .i64 k, .int .i64 i, .string s], .agg #[.int .i64 k', .int .i64 i', .string s']] W (.int .i64 (ordV k i s k' i' s'))) := Lib.hid fun W => order_any _ _ _ _ _ _ W
  have HB : Hid (betterB op ⟨k, i, s⟩ ⟨k', i', s'⟩ = if op = 20 then decide (ordV k i s k' i' s' < 0) else decide (0 < ordV k i s k' i' s')) := Lib.hid rfl
  generalize betterB op ⟨k, i, s⟩ ⟨k', i', s'⟩ = r at *
  generalize ordV k i s k' i' s' = o at *
  unfold vlV Gives
  by_cases h : op = 20
  · have hr : r = decide (o < 0) := by rw [HB.out, if_pos h]
    subst hr h
    go_enter Try.func203, Try.ntmps203
    go_wp2_with (go_at_call 228; (with_reducible refine (HO.out _).grows.mono ?_); rintro e w1 ⟨rfl, hg1⟩; have HG1 := Lib.hid hg1; clear hg1)
    go_ret
    exact ⟨rfl, (((Grew.refl w).alloc _).alloc _).trans HG1.out⟩
  · have hr : r = decide (0 < o) := by rw [HB.out, if_neg h]
    have h' : (op == 20) = false := by simpa using h
    subst hr
    clear h HB
    go_enter Try.func203, Try.ntmps203
    go_wp2_with (go_at_call 228; (with_reducible refine (HO.out _).grows.mono ?_); rintro e w1 ⟨rfl, hg1⟩; have HG1 := Lib.hid hg1; clear hg1)
    go_ret
    exact ⟨rfl, (((Grew.refl w).alloc _).alloc _).trans HG1.out⟩
theorem start_any (op : Int) (w : World) : Gives Try.prog 175 #[.int .i64 op] w (accV (startS op)) := by
  unfold Gives accV startS zV
  simp only
  have h0 : H 0 = 0 := by decide
  have h1 : L 0 = 0 := by decide
  rw [h0, h1]
  go_enter Try.func175, Try.ntmps175
  go_wp2
  exact bodyPost_ret (v := .agg #[.int .i64 op, .int .i64 0, .int .i64 0, .bool false, .int .u64 0, .int .u64 0, .int .i64 0, .int .i64 0, .int .i64 0, .string ⟨#[]⟩]) (by simp [results, Try.results175, go_sem]) rfl ⟨rfl, by (show Grew _ _; repeat (first | exact Grew.refl _ | refine Grew.alloc ?_ _ | refine Grew.drew ?_ | refine Grew.more ?_ _))⟩
theorem none_any (a : AccS) (w : World) : Gives Try.prog 204 #[accV a] w (.tuple #[vlV zV, .int .i64 3]) := by
  unfold Gives accV vlV zV
  go_enter Try.func204, Try.ntmps204
  go_wp2
  exact bodyPost_ret (v := .tuple #[.agg #[.int .i64 0, .int .i64 0, .string ⟨#[]⟩], .int .i64 3]) (by simp [results, Try.results204, go_sem]) rfl ⟨rfl, by (show Grew _ _; repeat (first | exact Grew.refl _ | refine Grew.alloc ?_ _ | refine Grew.drew ?_ | refine Grew.more ?_ _))⟩
theorem all_any (a : AccS) (w : World) : Gives Try.prog 205 #[accV a] w (.tuple #[vlV ⟨1, a.rows, ⟨#[]⟩⟩, .int .i64 0]) := by
  obtain ⟨op, rows, whole, wrong, z, zn, bk, bi, bs⟩ := a
  unfold Gives accV vlV
  simp only
  have HI : Hid (∀ W, Gives Try.prog 229 #[.int .i64 (rows : Int)] W (.agg #[.int .i64 1, .int .i64 (rows : Int), .string ⟨#[]⟩])) := Lib.hid fun W => int_any _ W
  go_enter Try.func205, Try.ntmps205
  go_wp2_with fail
  refine (HI.out _).grows.mono ?_
  rintro e w1 ⟨rfl, hg1⟩
  have HG1 : Hid (Grew w w1) := Lib.hid ((((Grew.refl w).alloc _).alloc _).trans hg1)
  have HB1 : Hid (Blok w1 (w.heap.size + 1) 27 #[.int .i64 0, .int .i64 0, .string ⟨#[]⟩]) := Lib.hid ((Blok.new _ _ _ _ (by simp)).grew hg1)
  obtain ⟨p1, c0, c1, c2, d0, d1, d2⟩ := val_in HB1.out
  clear hg1
  go_wp2
  have hb := val_set HB1.out (.int .i64 1) (.int .i64 (rows : Int)) (.string ⟨#[]⟩)
  obtain ⟨_, r0, r1, r2, _, _, _⟩ := val_in hb
  exact bodyPost_ret (v := .tuple #[.agg #[.int .i64 1, .int .i64 (rows : Int), .string ⟨#[]⟩], .int .i64 0]) (by simp [results, Try.results205, go_sem, r0, r1, r2]) rfl ⟨rfl, grew_set3 HG1.out (by omega) _ _ _⟩
theorem some_any (a : AccS) (w : World) : Gives Try.prog 206 #[accV a] w (.tuple #[vlV ⟨1, a.whole, ⟨#[]⟩⟩, .int .i64 0]) := by
  obtain ⟨op, rows, whole, wrong, z, zn, bk, bi, bs⟩ := a
  unfold Gives accV vlV
  simp only
  have HI : Hid (∀ W, Gives Try.prog 229 #[.int .i64 (whole : Int)] W (.agg #[.int .i64 1, .int .i64 (whole : Int), .string ⟨#[]⟩])) := Lib.hid fun W => int_any _ W
  go_enter Try.func206, Try.ntmps206
  go_wp2_with fail
  refine (HI.out _).grows.mono ?_
  rintro e w1 ⟨rfl, hg1⟩
  have HG1 : Hid (Grew w w1) := Lib.hid ((((Grew.refl w).alloc _).alloc _).trans hg1)
  have HB1 : Hid (Blok w1 (w.heap.size + 1) 27 #[.int .i64 0, .int .i64 0, .string ⟨#[]⟩]) := Lib.hid ((Blok.new _ _ _ _ (by simp)).grew hg1)
  obtain ⟨p1, c0, c1, c2, d0, d1, d2⟩ := val_in HB1.out
  clear hg1
  go_wp2
  have hb := val_set HB1.out (.int .i64 1) (.int .i64 (whole : Int)) (.string ⟨#[]⟩)
  obtain ⟨_, r0, r1, r2, _, _, _⟩ := val_in hb
  exact bodyPost_ret (v := .tuple #[.agg #[.int .i64 1, .int .i64 (whole : Int), .string ⟨#[]⟩], .int .i64 0]) (by simp [results, Try.results206, go_sem, r0, r1, r2]) rfl ⟨rfl, grew_set3 HG1.out (by omega) _ _ _⟩
def extremeP (a : AccS) : Vl × Int := if a.whole = 0 then (zV, 0) else (a.best, 0)
theorem extreme_any (a : AccS) (w : World) : Gives Try.prog 208 #[accV a] w (.tuple #[vlV (extremeP a).1, .int .i64 (extremeP a).2]) := by
  obtain ⟨op, rows, whole, wrong, z, zn, bk, bi, bs⟩ := a
  unfold extremeP
  simp only
  by_cases h : whole = 0
  · rw [if_pos h]
    subst h
    unfold Gives accV vlV zV
    simp only
    go_enter Try.func208, Try.ntmps208
    go_wp2_with fail
    refine (null_any _).grows.mono ?_
    rintro e w1 ⟨rfl, hg1⟩
    have HG1 : Hid (Grew w w1) := Lib.hid ((((Grew.refl w).alloc _).alloc _).trans hg1)
    have HB1 : Hid (Blok w1 (w.heap.size + 1) 27 #[.int .i64 0, .int .i64 0, .string ⟨#[]⟩]) := Lib.hid ((Blok.new _ _ _ _ (by simp)).grew hg1)
    obtain ⟨p1, c0, c1, c2, d0, d1, d2⟩ := val_in HB1.out
    clear hg1
    go_wp2
    have hb := val_set HB1.out (.int .i64 0) (.int .i64 0) (.string ⟨#[]⟩)
    obtain ⟨_, r0, r1, r2, _, _, _⟩ := val_in hb
    exact bodyPost_ret (v := .tuple #[.agg #[.int .i64 0, .int .i64 0, .string ⟨#[]⟩], .int .i64 0]) (by simp [results, Try.results208, go_sem, r0, r1, r2]) rfl ⟨rfl, grew_set3 HG1.out (by omega) _ _ _⟩
  · rw [if_neg h]
    have h' : ((whole : Int) == 0) = false := by simpa using h
    clear h
    unfold Gives accV vlV
    simp only
    go_enter Try.func208, Try.ntmps208
    go_wp2
    exact bodyPost_ret (v := .tuple #[.agg #[.int .i64 bk, .int .i64 bi, .string bs], .int .i64 0]) (by simp [results, Try.results208, go_sem]) rfl ⟨rfl, by (show Grew _ _; repeat (first | exact Grew.refl _ | refine Grew.alloc ?_ _ | refine Grew.drew ?_ | refine Grew.more ?_ _))⟩
def totalP (a : AccS) : Vl × Int := if a.wrong = true then (zV, 3) else if a.whole = 0 then (zV, 0) else if fits a.z = true then (⟨1, a.z, ⟨#[]⟩⟩, 0) else (zV, 5)
set_option maxHeartbeats 1000000 in
theorem total_any (a : AccS) (hz : isW a.z) (w : World) : Gives Try.prog 207 #[accV a] w (.tuple #[vlV (totalP a).1, .int .i64 (totalP a).2]) := by
  obtain ⟨op, rows, whole, wrong, z, zn, bk, bi, bs⟩ := a
  unfold totalP
  simp only at hz ⊢
  cases wrong
  · rw [if_neg (by simp)]
    by_cases h : whole = 0
    · rw [if_pos h]
      subst h
      unfold Gives accV vlV zV
      simp only
      go_enter Try.func207, Try.ntmps207
      go_wp2_with fail
      refine (null_any _).grows.mono ?_
      rintro e w1 ⟨rfl, hg1⟩
      have HG1 : Hid (Grew w w1) := Lib.hid ((((Grew.refl w).alloc _).alloc _).trans hg1)
      have HB1 : Hid (Blok w1 (w.heap.size + 1) 27 #[.int .i64 0, .int .i64 0, .string ⟨#[]⟩]) := Lib.hid ((Blok.new _ _ _ _ (by simp)).grew hg1)
      obtain ⟨p1, c0, c1, c2, d0, d1, d2⟩ := val_in HB1.out
      clear hg1
      go_wp2
      have hb := val_set HB1.out (.int .i64 0) (.int .i64 0) (.string ⟨#[]⟩)
      obtain ⟨_, r0, r1, r2, _, _, _⟩ := val_in hb
      exact bodyPost_ret (v := .tuple #[.agg #[.int .i64 0, .int .i64 0, .string ⟨#[]⟩], .int .i64 0]) (by simp [results, Try.results207, go_sem, r0, r1, r2]) rfl ⟨rfl, grew_set3 HG1.out (by omega) _ _ _⟩
    · rw [if_neg h]
      have h' : ((whole : Int) == 0) = false := by simpa using h
      have HT : Hid (∀ W, Gives Try.prog 230 #[.agg #[.int .u64 (H z), .int .u64 (L z), .int .i64 zn]] W (.tuple #[.int .i64 (fitV z), .int .i64 (errF z)])) := Lib.hid fun W => totalS_any z zn hz W
      have HI : Hid (∀ W, Gives Try.prog 229 #[.int .i64 z] W (.agg #[.int .i64 1, .int .i64 z, .string ⟨#[]⟩])) := Lib.hid fun W => int_any _ W
      clear h hz
      unfold errF fitV at HT
      unfold accV vlV zV
      simp only
      generalize H z = hz at *
      generalize L z = lz at *
      unfold Gives
      cases hf : fits z
      · rw [hf] at HT
        simp only [Bool.false_eq_true, if_false] at HT ⊢
        go_enter Try.func207, Try.ntmps207
        go_wp2_with fail
        refine (HT.out _).grows.mono ?_
        rintro e w1 ⟨rfl, hg1⟩
        have HG1 : Hid (Grew w w1) := Lib.hid ((((Grew.refl w).alloc _).alloc _).trans hg1)
        have HB1 : Hid (Blok w1 (w.heap.size + 1) 27 #[.int .i64 0, .int .i64 0, .string ⟨#[]⟩]) := Lib.hid ((Blok.new _ _ _ _ (by simp)).grew hg1)
        obtain ⟨p1, c0, c1, c2, d0, d1, d2⟩ := val_in HB1.out
        clear hg1
        go_wp2
        have hb := val_set HB1.out (.int .i64 0) (.int .i64 0) (.string ⟨#[]⟩)
        obtain ⟨_, r0, r1, r2, _, _, _⟩ := val_in hb
        exact bodyPost_ret (v := .tuple #[.agg #[.int .i64 0, .int .i64 0, .string ⟨#[]⟩], .int .i64 5]) (by simp [results, Try.results207, go_sem, r0, r1, r2]) rfl ⟨rfl, grew_set3 HG1.out (by omega) _ _ _⟩
      · rw [hf] at HT
        simp only [if_true] at HT ⊢
        go_enter Try.func207, Try.ntmps207
        go_wp2_with fail
        refine (HT.out _).grows.mono ?_
        rintro e w1 ⟨rfl, hg1⟩
        have HG1 : Hid (Grew w w1) := Lib.hid ((((Grew.refl w).alloc _).alloc _).trans hg1)
        have HB1 : Hid (Blok w1 (w.heap.size + 1) 27 #[.int .i64 0, .int .i64 0, .string ⟨#[]⟩]) := Lib.hid ((Blok.new _ _ _ _ (by simp)).grew hg1)
        clear hg1
        go_wp2_with fail
        refine (HI.out _).grows.mono ?_
        rintro e w2 ⟨rfl, hg2⟩
        have HG2 := Lib.hid (HG1.out.trans hg2)
        have HB2 := Lib.hid (HB1.out.grew hg2)
        obtain ⟨p1, c0, c1, c2, d0, d1, d2⟩ := val_in HB2.out
        clear hg2
        go_wp2
        have hb := val_set HB2.out (.int .i64 1) (.int .i64 z) (.string ⟨#[]⟩)
        obtain ⟨_, r0, r1, r2, _, _, _⟩ := val_in hb
        exact bodyPost_ret (v := .tuple #[.agg #[.int .i64 1, .int .i64 z, .string ⟨#[]⟩], .int .i64 0]) (by simp [results, Try.results207, go_sem, r0, r1, r2]) rfl ⟨rfl, grew_set3 HG2.out (by omega) _ _ _⟩
  · rw [if_pos rfl]
    unfold Gives accV vlV zV
    simp only
    go_enter Try.func207, Try.ntmps207
    go_wp2
    exact bodyPost_ret (v := .tuple #[.agg #[.int .i64 0, .int .i64 0, .string ⟨#[]⟩], .int .i64 3]) (by simp [results, Try.results207, go_sem]) rfl ⟨rfl, by (show Grew _ _; repeat (first | exact Grew.refl _ | refine Grew.alloc ?_ _ | refine Grew.drew ?_ | refine Grew.more ?_ _))⟩
end Go.Proofs.Ytfdjnhnchibejaa

/- Layer 14: one value more. Condition: counts within a hundred thousand. -/
namespace Go.Proofs.Ytfdjnhnchibejaa
open Go.RowKit
attribute [local go_sem] more_cell more_frozen more_more more_setCell more_of_drew more_of_drewN lt_more le_more past_cell past_cell2 past_frozen past_frozen2 past_setCell past_setCell2 mid_cell mid_frozen mid_setCell
attribute [local go_sem ↓] Go.wp_at_zero Go.wp_at_succ

/-- The ten cells of a state in a block of one's own. -/
structure AccIn (w : World) (g : Nat) (a0 a1 a2 a3 a4 a5 a6 a7 a8 a9 : Value) : Prop where
  lt : g < w.heap.size
  c0 : w.cell? ⟨g, 0, none⟩ = some a0
  c1 : w.cell? ⟨g, 1, none⟩ = some a1
  c2 : w.cell? ⟨g, 2, none⟩ = some a2
  c3 : w.cell? ⟨g, 3, none⟩ = some a3
  c4 : w.cell? ⟨g, 4, none⟩ = some a4
  c5 : w.cell? ⟨g, 5, none⟩ = some a5
  c6 : w.cell? ⟨g, 6, none⟩ = some a6
  c7 : w.cell? ⟨g, 7, none⟩ = some a7
  c8 : w.cell? ⟨g, 8, none⟩ = some a8
  c9 : w.cell? ⟨g, 9, none⟩ = some a9
theorem acc_in {w : World} {g : Nat} {a0 a1 a2 a3 a4 a5 a6 a7 a8 a9 : Value} (h : Blok w g 181 #[a0, a1, a2, a3, a4, a5, a6, a7, a8, a9]) : AccIn w g a0 a1 a2 a3 a4 a5 a6 a7 a8 a9 :=
  ⟨h.lt, h.cell 0, h.cell 1, h.cell 2, h.cell 3, h.cell 4, h.cell 5, h.cell 6, h.cell 7, h.cell 8, h.cell 9⟩
theorem acc_th {w : World} {g : Nat} {cs : Array Value} (h : Blok w g 181 cs) : w.frozen? ⟨g, 0, none⟩ = false ∧ w.frozen? ⟨g, 1, none⟩ = false ∧ w.frozen? ⟨g, 2, none⟩ = false ∧ w.frozen? ⟨g, 3, none⟩ = false ∧ w.frozen? ⟨g, 4, none⟩ = false ∧ w.frozen? ⟨g, 5, none⟩ = false ∧ w.frozen? ⟨g, 6, none⟩ = false ∧ w.frozen? ⟨g, 7, none⟩ = false ∧ w.frozen? ⟨g, 8, none⟩ = false ∧ w.frozen? ⟨g, 9, none⟩ = false :=
  ⟨h.thaw 0, h.thaw 1, h.thaw 2, h.thaw 3, h.thaw 4, h.thaw 5, h.thaw 6, h.thaw 7, h.thaw 8, h.thaw 9⟩
theorem acc_set {w : World} {g : Nat} {a0 a1 a2 a3 a4 a5 a6 a7 a8 a9 : Value} (h : Blok w g 181 #[a0, a1, a2, a3, a4, a5, a6, a7, a8, a9]) (b0 b1 b2 b3 b4 b5 b6 b7 b8 b9 : Value) :
    Blok ((((((((((w.setCell ⟨g, 0, none⟩ b0).setCell ⟨g, 1, none⟩ b1).setCell ⟨g, 2, none⟩ b2).setCell ⟨g, 3, none⟩ b3).setCell ⟨g, 4, none⟩ b4).setCell ⟨g, 5, none⟩ b5).setCell ⟨g, 6, none⟩ b6).setCell ⟨g, 7, none⟩ b7).setCell ⟨g, 8, none⟩ b8).setCell ⟨g, 9, none⟩ b9) g 181 #[b0, b1, b2, b3, b4, b5, b6, b7, b8, b9] := by
  have := (((((((((h.set 0 b0).set 1 b1).set 2 b2).set 3 b3).set 4 b4).set 5 b5).set 6 b6).set 7 b7).set 8 b8).set 9 b9
  simpa using this
theorem grew_set10 {u w : World} (h : Grew u w) {g : Nat} (hg : u.heap.size ≤ g) (b0 b1 b2 b3 b4 b5 b6 b7 b8 b9 : Value) :
    Grew u ((((((((((w.setCell ⟨g, 0, none⟩ b0).setCell ⟨g, 1, none⟩ b1).setCell ⟨g, 2, none⟩ b2).setCell ⟨g, 3, none⟩ b3).setCell ⟨g, 4, none⟩ b4).setCell ⟨g, 5, none⟩ b5).setCell ⟨g, 6, none⟩ b6).setCell ⟨g, 7, none⟩ b7).setCell ⟨g, 8, none⟩ b8).setCell ⟨g, 9, none⟩ b9) := by
  iterate 10 refine Grew.setCell ?_ hg _
  exact h
set_option maxHeartbeats 4000000 in
set_option maxRecDepth 100000 in
theorem feed_any (a : AccS) (v : Vl) (hr : a.rows ≤ 100000) (hw : a.whole ≤ 100000) (hz : a.zn ≤ 100000) (hv : isI v.i) (w : World) : Gives Try.prog 176 #[accV a, vlV v] w (accV (feedS a v)) := by
  obtain ⟨op, rows, whole, wrong, z, zn, bk, bi, bs⟩ := a
  obtain ⟨k, i, s⟩ := v
  have HBT : Hid (∀ W, Gives Try.prog 203 #[.int .i64 op, vlV ⟨k, i, s⟩, vlV ⟨bk, bi, bs⟩] W (.bool (betterB op ⟨k, i, s⟩ ⟨bk, bi, bs⟩))) := Lib.hid fun W => better_any op _ _ W
  unfold feedS accV vlV at *
  simp only at *
  generalize hbt : betterB op ⟨k, i, s⟩ ⟨bk, bi, bs⟩ = bt at *
  clear hbt
  have HNu : Hid (∀ W, Gives Try.prog 190 #[.agg #[.int .i64 k, .int .i64 i, .string s]] W (.bool (k == 0))) := Lib.hid fun W => isnull_any k i s W
  have HPl : Hid (∀ W, Gives Try.prog 202 #[.agg #[.int .u64 (H z), .int .u64 (L z), .int .i64 zn], .int .i64 i] W (.agg #[.int .u64 (H (z + i)), .int .u64 (L (z + i)), .int .i64 (zn + 1)])) := Lib.hid fun W => plusS_any z zn i hv (by omega) (by omega) W
  clear hv
  by_cases h0 : k = 0
  · rw [if_pos h0]
    subst h0
    push_cast at *
    unfold Gives
    go_enter Try.func176, Try.ntmps176
    go_wp2_with fail
    refine (HNu.out _).grows.mono ?_
    rintro e w1 ⟨rfl, hg1⟩
    have HG1 : Hid (Grew w w1) := Lib.hid (((((Grew.refl w).alloc _).alloc _).alloc _).trans hg1)
    have HA1 : Hid (Blok w1 w.heap.size 181 #[.int .i64 op, .int .i64 ((rows : Int) + 1), .int .i64 whole, .bool wrong, .int .u64 (H z), .int .u64 (L z), .int .i64 zn, .int .i64 bk, .int .i64 bi, .string bs]) := Lib.hid ((((Blok.new _ _ _ _ rfl).alloc _).alloc _).grew hg1)
    have HV1 : Hid (Blok w1 (w.heap.size + 1) 27 #[.int .i64 0, .int .i64 i, .string s]) := Lib.hid (((Blok.new _ _ _ _ (by simp)).alloc _).grew hg1)
    have HZ1 : Hid (Blok w1 (w.heap.size + 1 + 1) 181 #[.int .i64 0, .int .i64 0, .int .i64 0, .bool false, .int .u64 0, .int .u64 0, .int .i64 0, .int .i64 0, .int .i64 0, .string ⟨#[]⟩]) := Lib.hid ((Blok.new _ _ _ _ (by simp)).grew hg1)
    clear hg1 HNu
    generalize hga : w.heap.size = ga at *
    have HGA := Lib.hid hga
    clear hga
    obtain ⟨la, a0, a1, a2, a3, a4, a5, a6, a7, a8, a9⟩ := acc_in HA1.out
    obtain ⟨b0, b1, b2, b3, b4, b5, b6, b7, b8, b9⟩ := acc_th HA1.out
    obtain ⟨lv, v0, v1, v2, _, _, _⟩ := val_in HV1.out
    obtain ⟨lz, z0, z1, z2, z3, z4, z5, z6, z7, z8, z9⟩ := acc_in HZ1.out
    obtain ⟨y0, y1, y2, y3, y4, y5, y6, y7, y8, y9⟩ := acc_th HZ1.out
    go_wp2
    have bz : Blok w1 (ga + 1 + 1) 181 #[.int .i64 0, .int .i64 0, .int .i64 0, .bool false, .int .u64 0, .int .u64 0, .int .i64 0, .int .i64 0, .int .i64 0, .string ⟨#[]⟩] := by
      repeat (first | with_reducible exact HZ1.out | refine Blok.far ?_ (by simp <;> omega) _)
    have bg : Grew w w1 := by
      repeat (first | with_reducible exact HG1.out | refine Grew.setCell ?_ (by rw [HGA.out]; exact Nat.le_refl _) _)
    have hb := acc_set bz (.int .i64 op) (.int .i64 ((rows : Int) + 1)) (.int .i64 whole) (.bool wrong) (.int .u64 (H z)) (.int .u64 (L z)) (.int .i64 zn) (.int .i64 bk) (.int .i64 bi) (.string bs)
    obtain ⟨_, r0, r1, r2, r3, r4, r5, r6, r7, r8, r9⟩ := acc_in hb
    exact bodyPost_ret (v := .agg #[.int .i64 op, .int .i64 ((rows : Int) + 1), .int .i64 whole, .bool wrong, .int .u64 (H z), .int .u64 (L z), .int .i64 zn, .int .i64 bk, .int .i64 bi, .string bs]) (by simp [results, Try.results176, go_sem, r0, r1, r2, r3, r4, r5, r6, r7, r8, r9]) rfl ⟨rfl, grew_set10 bg (by rw [HGA.out]; omega) _ _ _ _ _ _ _ _ _ _⟩
  · rw [if_neg h0]
    have hk0 : (k == 0) = false := by simpa using h0
    push_cast at *
    obtain ⟨b', hb'⟩ : ∃ b', (if whole = 0 ∨ bt = true then (⟨k, i, s⟩ : Vl) else ⟨bk, bi, bs⟩) = b' := ⟨_, rfl⟩
    rw [hb']
    have hcase : (whole = 0 ∧ b' = ⟨k, i, s⟩) ∨ (((whole : Int) == 0) = false ∧ bt = true ∧ b' = ⟨k, i, s⟩) ∨ (((whole : Int) == 0) = false ∧ bt = false ∧ b' = ⟨bk, bi, bs⟩) := by
      by_cases c1 : whole = 0
      · exact Or.inl ⟨c1, by rw [← hb', if_pos (Or.inl c1)]⟩
      · have c2 : ((whole : Int) == 0) = false := by simpa using c1
        cases bt
        · exact Or.inr (Or.inr ⟨c2, rfl, by rw [← hb', if_neg (by simpa using c1)]⟩)
        · exact Or.inr (Or.inl ⟨c2, rfl, by rw [← hb', if_pos (Or.inr rfl)]⟩)
    clear hb' h0
    by_cases h1 : k = 1
    · rw [if_pos h1, if_pos h1, if_pos h1]
      subst h1
      push_cast at *
      rcases hcase with ⟨c1, rfl⟩ | ⟨c1, rfl, rfl⟩ | ⟨c1, rfl, rfl⟩
      · subst c1
        push_cast at *
        unfold Gives
        go_enter Try.func176, Try.ntmps176
        go_wp2_with fail
        refine (HNu.out _).grows.mono ?_
        rintro e w1 ⟨rfl, hg1⟩
        have HG1 : Hid (Grew w w1) := Lib.hid (((((Grew.refl w).alloc _).alloc _).alloc _).trans hg1)
        have HA1 : Hid (Blok w1 w.heap.size 181 #[.int .i64 op, .int .i64 ((rows : Int) + 1), .int .i64 0, .bool wrong, .int .u64 (H z), .int .u64 (L z), .int .i64 zn, .int .i64 bk, .int .i64 bi, .string bs]) := Lib.hid ((((Blok.new _ _ _ _ rfl).alloc _).alloc _).grew hg1)
        have HV1 : Hid (Blok w1 (w.heap.size + 1) 27 #[.int .i64 1, .int .i64 i, .string s]) := Lib.hid (((Blok.new _ _ _ _ (by simp)).alloc _).grew hg1)
        have HZ1 : Hid (Blok w1 (w.heap.size + 1 + 1) 181 #[.int .i64 0, .int .i64 0, .int .i64 0, .bool false, .int .u64 0, .int .u64 0, .int .i64 0, .int .i64 0, .int .i64 0, .string ⟨#[]⟩]) := Lib.hid ((Blok.new _ _ _ _ (by simp)).grew hg1)
        clear hg1 HNu
        generalize hga : w.heap.size = ga at *
        have HGA := Lib.hid hga
        clear hga
        obtain ⟨la, a0, a1, a2, a3, a4, a5, a6, a7, a8, a9⟩ := acc_in HA1.out
        obtain ⟨b0, b1, b2, b3, b4, b5, b6, b7, b8, b9⟩ := acc_th HA1.out
        obtain ⟨lv, v0, v1, v2, _, _, _⟩ := val_in HV1.out
        obtain ⟨lz, z0, z1, z2, z3, z4, z5, z6, z7, z8, z9⟩ := acc_in HZ1.out
        obtain ⟨y0, y1, y2, y3, y4, y5, y6, y7, y8, y9⟩ := acc_th HZ1.out
        go_wp2_with fail
        refine (HPl.out _).grows.mono ?_
        rintro e w2 ⟨rfl, hg⟩
        have ba : Blok (w1.setCell ⟨ga, 2, none⟩ (.int .i64 1)) ga 181 #[.int .i64 op, .int .i64 ((rows : Int) + 1), .int .i64 1, .bool wrong, .int .u64 (H z), .int .u64 (L z), .int .i64 zn, .int .i64 bk, .int .i64 bi, .string bs] := by
          have := (HA1.out.set 2 (.int .i64 1))
          simpa using this
        have bv : Blok (w1.setCell ⟨ga, 2, none⟩ (.int .i64 1)) (ga + 1) 27 #[.int .i64 1, .int .i64 i, .string s] := by
          repeat (first | with_reducible exact HV1.out | refine Blok.far ?_ (by simp) _)
        have bz : Blok (w1.setCell ⟨ga, 2, none⟩ (.int .i64 1)) (ga + 1 + 1) 181 #[.int .i64 0, .int .i64 0, .int .i64 0, .bool false, .int .u64 0, .int .u64 0, .int .i64 0, .int .i64 0, .int .i64 0, .string ⟨#[]⟩] := by
          repeat (first | with_reducible exact HZ1.out | refine Blok.far ?_ (by simp <;> omega) _)
        have bg : Grew w (w1.setCell ⟨ga, 2, none⟩ (.int .i64 1)) := by
          repeat (first | with_reducible exact HG1.out | refine Grew.setCell ?_ (by rw [HGA.out]; exact Nat.le_refl _) _)
        have HA2 := Lib.hid (ba.grew hg)
        have HV2 := Lib.hid (bv.grew hg)
        have HZ2 := Lib.hid (bz.grew hg)
        have HG2 := Lib.hid (bg.trans hg)
        clear hg ba bv bz bg HA1 HV1 HZ1 HG1
        clear la a0 a1 a2 a3 a4 a5 a6 a7 a8 a9 b0 b1 b2 b3 b4 b5 b6 b7 b8 b9 lv v0 v1 v2 lz z0 z1 z2 z3 z4 z5 z6 z7 z8 z9 y0 y1 y2 y3 y4 y5 y6 y7 y8 y9
        obtain ⟨la, a0, a1, a2, a3, a4, a5, a6, a7, a8, a9⟩ := acc_in HA2.out
        obtain ⟨b0, b1, b2, b3, b4, b5, b6, b7, b8, b9⟩ := acc_th HA2.out
        obtain ⟨lv, v0, v1, v2, _, _, _⟩ := val_in HV2.out
        obtain ⟨lz, z0, z1, z2, z3, z4, z5, z6, z7, z8, z9⟩ := acc_in HZ2.out
        obtain ⟨y0, y1, y2, y3, y4, y5, y6, y7, y8, y9⟩ := acc_th HZ2.out
        go_wp2
        have bz : Blok ((((((w2.setCell ⟨ga, 4, none⟩ (.int .u64 (H (z + i)))).setCell ⟨ga, 5, none⟩ (.int .u64 (L (z + i)))).setCell ⟨ga, 6, none⟩ (.int .i64 ((zn : Int) + 1))).setCell ⟨ga, 7, none⟩ (.int .i64 1)).setCell ⟨ga, 8, none⟩ (.int .i64 i)).setCell ⟨ga, 9, none⟩ (.string s)) (ga + 1 + 1) 181 #[.int .i64 0, .int .i64 0, .int .i64 0, .bool false, .int .u64 0, .int .u64 0, .int .i64 0, .int .i64 0, .int .i64 0, .string ⟨#[]⟩] := by
          repeat (first | with_reducible exact HZ2.out | refine Blok.far ?_ (by simp <;> omega) _)
        have bg : Grew w ((((((w2.setCell ⟨ga, 4, none⟩ (.int .u64 (H (z + i)))).setCell ⟨ga, 5, none⟩ (.int .u64 (L (z + i)))).setCell ⟨ga, 6, none⟩ (.int .i64 ((zn : Int) + 1))).setCell ⟨ga, 7, none⟩ (.int .i64 1)).setCell ⟨ga, 8, none⟩ (.int .i64 i)).setCell ⟨ga, 9, none⟩ (.string s)) := by
          repeat (first | with_reducible exact HG2.out | refine Grew.setCell ?_ (by rw [HGA.out]; exact Nat.le_refl _) _)
        have hb := acc_set bz (.int .i64 op) (.int .i64 ((rows : Int) + 1)) (.int .i64 1) (.bool wrong) (.int .u64 (H (z + i))) (.int .u64 (L (z + i))) (.int .i64 ((zn : Int) + 1)) (.int .i64 1) (.int .i64 i) (.string s)
        obtain ⟨_, r0, r1, r2, r3, r4, r5, r6, r7, r8, r9⟩ := acc_in hb
        exact bodyPost_ret (v := .agg #[.int .i64 op, .int .i64 ((rows : Int) + 1), .int .i64 1, .bool wrong, .int .u64 (H (z + i)), .int .u64 (L (z + i)), .int .i64 ((zn : Int) + 1), .int .i64 1, .int .i64 i, .string s]) (by simp [results, Try.results176, go_sem, r0, r1, r2, r3, r4, r5, r6, r7, r8, r9]) rfl ⟨rfl, grew_set10 bg (by rw [HGA.out]; omega) _ _ _ _ _ _ _ _ _ _⟩
      · have c3 : ((whole : Int) + 1 == 1) = false := by simp at c1 ⊢; omega
        unfold Gives
        go_enter Try.func176, Try.ntmps176
        go_wp2_with fail
        refine (HNu.out _).grows.mono ?_
        rintro e w1 ⟨rfl, hg1⟩
        have HG1 : Hid (Grew w w1) := Lib.hid (((((Grew.refl w).alloc _).alloc _).alloc _).trans hg1)
        have HA1 : Hid (Blok w1 w.heap.size 181 #[.int .i64 op, .int .i64 ((rows : Int) + 1), .int .i64 whole, .bool wrong, .int .u64 (H z), .int .u64 (L z), .int .i64 zn, .int .i64 bk, .int .i64 bi, .string bs]) := Lib.hid ((((Blok.new _ _ _ _ rfl).alloc _).alloc _).grew hg1)
        have HV1 : Hid (Blok w1 (w.heap.size + 1) 27 #[.int .i64 1, .int .i64 i, .string s]) := Lib.hid (((Blok.new _ _ _ _ (by simp)).alloc _).grew hg1)
        have HZ1 : Hid (Blok w1 (w.heap.size + 1 + 1) 181 #[.int .i64 0, .int .i64 0, .int .i64 0, .bool false, .int .u64 0, .int .u64 0, .int .i64 0, .int .i64 0, .int .i64 0, .string ⟨#[]⟩]) := Lib.hid ((Blok.new _ _ _ _ (by simp)).grew hg1)
        clear hg1 HNu
        generalize hga : w.heap.size = ga at *
        have HGA := Lib.hid hga
        clear hga
        obtain ⟨la, a0, a1, a2, a3, a4, a5, a6, a7, a8, a9⟩ := acc_in HA1.out
        obtain ⟨b0, b1, b2, b3, b4, b5, b6, b7, b8, b9⟩ := acc_th HA1.out
        obtain ⟨lv, v0, v1, v2, _, _, _⟩ := val_in HV1.out
        obtain ⟨lz, z0, z1, z2, z3, z4, z5, z6, z7, z8, z9⟩ := acc_in HZ1.out
        obtain ⟨y0, y1, y2, y3, y4, y5, y6, y7, y8, y9⟩ := acc_th HZ1.out
        go_wp2_with fail
        refine (HPl.out _).grows.mono ?_
        rintro e w2 ⟨rfl, hg⟩
        have ba : Blok (w1.setCell ⟨ga, 2, none⟩ (.int .i64 ((whole : Int) + 1))) ga 181 #[.int .i64 op, .int .i64 ((rows : Int) + 1), .int .i64 ((whole : Int) + 1), .bool wrong, .int .u64 (H z), .int .u64 (L z), .int .i64 zn, .int .i64 bk, .int .i64 bi, .string bs] := by
          have := (HA1.out.set 2 (.int .i64 ((whole : Int) + 1)))
          simpa using this
        have bv : Blok (w1.setCell ⟨ga, 2, none⟩ (.int .i64 ((whole : Int) + 1))) (ga + 1) 27 #[.int .i64 1, .int .i64 i, .string s] := by
          repeat (first | with_reducible exact HV1.out | refine Blok.far ?_ (by simp) _)
        have bz : Blok (w1.setCell ⟨ga, 2, none⟩ (.int .i64 ((whole : Int) + 1))) (ga + 1 + 1) 181 #[.int .i64 0, .int .i64 0, .int .i64 0, .bool false, .int .u64 0, .int .u64 0, .int .i64 0, .int .i64 0, .int .i64 0, .string ⟨#[]⟩] := by
          repeat (first | with_reducible exact HZ1.out | refine Blok.far ?_ (by simp <;> omega) _)
        have bg : Grew w (w1.setCell ⟨ga, 2, none⟩ (.int .i64 ((whole : Int) + 1))) := by
          repeat (first | with_reducible exact HG1.out | refine Grew.setCell ?_ (by rw [HGA.out]; exact Nat.le_refl _) _)
        have HA2 := Lib.hid (ba.grew hg)
        have HV2 := Lib.hid (bv.grew hg)
        have HZ2 := Lib.hid (bz.grew hg)
        have HG2 := Lib.hid (bg.trans hg)
        clear hg ba bv bz bg HA1 HV1 HZ1 HG1
        clear la a0 a1 a2 a3 a4 a5 a6 a7 a8 a9 b0 b1 b2 b3 b4 b5 b6 b7 b8 b9 lv v0 v1 v2 lz z0 z1 z2 z3 z4 z5 z6 z7 z8 z9 y0 y1 y2 y3 y4 y5 y6 y7 y8 y9
        obtain ⟨la, a0, a1, a2, a3, a4, a5, a6, a7, a8, a9⟩ := acc_in HA2.out
        obtain ⟨b0, b1, b2, b3, b4, b5, b6, b7, b8, b9⟩ := acc_th HA2.out
        obtain ⟨lv, v0, v1, v2, _, _, _⟩ := val_in HV2.out
        obtain ⟨lz, z0, z1, z2, z3, z4, z5, z6, z7, z8, z9⟩ := acc_in HZ2.out
        obtain ⟨y0, y1, y2, y3, y4, y5, y6, y7, y8, y9⟩ := acc_th HZ2.out
        go_wp2_with fail
        refine (HBT.out _).grows.mono ?_
        rintro e w3 ⟨rfl, hg⟩
        have ba : Blok (((w2.setCell ⟨ga, 4, none⟩ (.int .u64 (H (z + i)))).setCell ⟨ga, 5, none⟩ (.int .u64 (L (z + i)))).setCell ⟨ga, 6, none⟩ (.int .i64 ((zn : Int) + 1))) ga 181 #[.int .i64 op, .int .i64 ((rows : Int) + 1), .int .i64 ((whole : Int) + 1), .bool wrong, .int .u64 (H (z + i)), .int .u64 (L (z + i)), .int .i64 ((zn : Int) + 1), .int .i64 bk, .int .i64 bi, .string bs] := by
          have := (((HA2.out.set 4 (.int .u64 (H (z + i)))).set 5 (.int .u64 (L (z + i)))).set 6 (.int .i64 ((zn : Int) + 1)))
          simpa using this
        have bv : Blok (((w2.setCell ⟨ga, 4, none⟩ (.int .u64 (H (z + i)))).setCell ⟨ga, 5, none⟩ (.int .u64 (L (z + i)))).setCell ⟨ga, 6, none⟩ (.int .i64 ((zn : Int) + 1))) (ga + 1) 27 #[.int .i64 1, .int .i64 i, .string s] := by
          repeat (first | with_reducible exact HV2.out | refine Blok.far ?_ (by simp) _)
        have bz : Blok (((w2.setCell ⟨ga, 4, none⟩ (.int .u64 (H (z + i)))).setCell ⟨ga, 5, none⟩ (.int .u64 (L (z + i)))).setCell ⟨ga, 6, none⟩ (.int .i64 ((zn : Int) + 1))) (ga + 1 + 1) 181 #[.int .i64 0, .int .i64 0, .int .i64 0, .bool false, .int .u64 0, .int .u64 0, .int .i64 0, .int .i64 0, .int .i64 0, .string ⟨#[]⟩] := by
          repeat (first | with_reducible exact HZ2.out | refine Blok.far ?_ (by simp <;> omega) _)
        have bg : Grew w (((w2.setCell ⟨ga, 4, none⟩ (.int .u64 (H (z + i)))).setCell ⟨ga, 5, none⟩ (.int .u64 (L (z + i)))).setCell ⟨ga, 6, none⟩ (.int .i64 ((zn : Int) + 1))) := by
          repeat (first | with_reducible exact HG2.out | refine Grew.setCell ?_ (by rw [HGA.out]; exact Nat.le_refl _) _)
        have HA3 := Lib.hid (ba.grew hg)
        have HV3 := Lib.hid (bv.grew hg)
        have HZ3 := Lib.hid (bz.grew hg)
        have HG3 := Lib.hid (bg.trans hg)
        clear hg ba bv bz bg HA2 HV2 HZ2 HG2
        clear la a0 a1 a2 a3 a4 a5 a6 a7 a8 a9 b0 b1 b2 b3 b4 b5 b6 b7 b8 b9 lv v0 v1 v2 lz z0 z1 z2 z3 z4 z5 z6 z7 z8 z9 y0 y1 y2 y3 y4 y5 y6 y7 y8 y9
        obtain ⟨la, a0, a1, a2, a3, a4, a5, a6, a7, a8, a9⟩ := acc_in HA3.out
        obtain ⟨b0, b1, b2, b3, b4, b5, b6, b7, b8, b9⟩ := acc_th HA3.out
        obtain ⟨lv, v0, v1, v2, _, _, _⟩ := val_in HV3.out
        obtain ⟨lz, z0, z1, z2, z3, z4, z5, z6, z7, z8, z9⟩ := acc_in HZ3.out
        obtain ⟨y0, y1, y2, y3, y4, y5, y6, y7, y8, y9⟩ := acc_th HZ3.out
        go_wp2
        have bz : Blok (((w3.setCell ⟨ga, 7, none⟩ (.int .i64 1)).setCell ⟨ga, 8, none⟩ (.int .i64 i)).setCell ⟨ga, 9, none⟩ (.string s)) (ga + 1 + 1) 181 #[.int .i64 0, .int .i64 0, .int .i64 0, .bool false, .int .u64 0, .int .u64 0, .int .i64 0, .int .i64 0, .int .i64 0, .string ⟨#[]⟩] := by
          repeat (first | with_reducible exact HZ3.out | refine Blok.far ?_ (by simp <;> omega) _)
        have bg : Grew w (((w3.setCell ⟨ga, 7, none⟩ (.int .i64 1)).setCell ⟨ga, 8, none⟩ (.int .i64 i)).setCell ⟨ga, 9, none⟩ (.string s)) := by
          repeat (first | with_reducible exact HG3.out | refine Grew.setCell ?_ (by rw [HGA.out]; exact Nat.le_refl _) _)
        have hb := acc_set bz (.int .i64 op) (.int .i64 ((rows : Int) + 1)) (.int .i64 ((whole : Int) + 1)) (.bool wrong) (.int .u64 (H (z + i))) (.int .u64 (L (z + i))) (.int .i64 ((zn : Int) + 1)) (.int .i64 1) (.int .i64 i) (.string s)
        obtain ⟨_, r0, r1, r2, r3, r4, r5, r6, r7, r8, r9⟩ := acc_in hb
        exact bodyPost_ret (v := .agg #[.int .i64 op, .int .i64 ((rows : Int) + 1), .int .i64 ((whole : Int) + 1), .bool wrong, .int .u64 (H (z + i)), .int .u64 (L (z + i)), .int .i64 ((zn : Int) + 1), .int .i64 1, .int .i64 i, .string s]) (by simp [results, Try.results176, go_sem, r0, r1, r2, r3, r4, r5, r6, r7, r8, r9]) rfl ⟨rfl, grew_set10 bg (by rw [HGA.out]; omega) _ _ _ _ _ _ _ _ _ _⟩
      · have c3 : ((whole : Int) + 1 == 1) = false := by simp at c1 ⊢; omega
        unfold Gives
        go_enter Try.func176, Try.ntmps176
        go_wp2_with fail
        refine (HNu.out _).grows.mono ?_
        rintro e w1 ⟨rfl, hg1⟩
        have HG1 : Hid (Grew w w1) := Lib.hid (((((Grew.refl w).alloc _).alloc _).alloc _).trans hg1)
        have HA1 : Hid (Blok w1 w.heap.size 181 #[.int .i64 op, .int .i64 ((rows : Int) + 1), .int .i64 whole, .bool wrong, .int .u64 (H z), .int .u64 (L z), .int .i64 zn, .int .i64 bk, .int .i64 bi, .string bs]) := Lib.hid ((((Blok.new _ _ _ _ rfl).alloc _).alloc _).grew hg1)
        have HV1 : Hid (Blok w1 (w.heap.size + 1) 27 #[.int .i64 1, .int .i64 i, .string s]) := Lib.hid (((Blok.new _ _ _ _ (by simp)).alloc _).grew hg1)
        have HZ1 : Hid (Blok w1 (w.heap.size + 1 + 1) 181 #[.int .i64 0, .int .i64 0, .int .i64 0, .bool false, .int .u64 0, .int .u64 0, .int .i64 0, .int .i64 0, .int .i64 0, .string ⟨#[]⟩]) := Lib.hid ((Blok.new _ _ _ _ (by simp)).grew hg1)
        clear hg1 HNu
        generalize hga : w.heap.size = ga at *
        have HGA := Lib.hid hga
        clear hga
        obtain ⟨la, a0, a1, a2, a3, a4, a5, a6, a7, a8, a9⟩ := acc_in HA1.out
        obtain ⟨b0, b1, b2, b3, b4, b5, b6, b7, b8, b9⟩ := acc_th HA1.out
        obtain ⟨lv, v0, v1, v2, _, _, _⟩ := val_in HV1.out
        obtain ⟨lz, z0, z1, z2, z3, z4, z5, z6, z7, z8, z9⟩ := acc_in HZ1.out
        obtain ⟨y0, y1, y2, y3, y4, y5, y6, y7, y8, y9⟩ := acc_th HZ1.out
        go_wp2_with fail
        refine (HPl.out _).grows.mono ?_
        rintro e w2 ⟨rfl, hg⟩
        have ba : Blok (w1.setCell ⟨ga, 2, none⟩ (.int .i64 ((whole : Int) + 1))) ga 181 #[.int .i64 op, .int .i64 ((rows : Int) + 1), .int .i64 ((whole : Int) + 1), .bool wrong, .int .u64 (H z), .int .u64 (L z), .int .i64 zn, .int .i64 bk, .int .i64 bi, .string bs] := by
          have := (HA1.out.set 2 (.int .i64 ((whole : Int) + 1)))
          simpa using this
        have bv : Blok (w1.setCell ⟨ga, 2, none⟩ (.int .i64 ((whole : Int) + 1))) (ga + 1) 27 #[.int .i64 1, .int .i64 i, .string s] := by
          repeat (first | with_reducible exact HV1.out | refine Blok.far ?_ (by simp) _)
        have bz : Blok (w1.setCell ⟨ga, 2, none⟩ (.int .i64 ((whole : Int) + 1))) (ga + 1 + 1) 181 #[.int .i64 0, .int .i64 0, .int .i64 0, .bool false, .int .u64 0, .int .u64 0, .int .i64 0, .int .i64 0, .int .i64 0, .string ⟨#[]⟩] := by
          repeat (first | with_reducible exact HZ1.out | refine Blok.far ?_ (by simp <;> omega) _)
        have bg : Grew w (w1.setCell ⟨ga, 2, none⟩ (.int .i64 ((whole : Int) + 1))) := by
          repeat (first | with_reducible exact HG1.out | refine Grew.setCell ?_ (by rw [HGA.out]; exact Nat.le_refl _) _)
        have HA2 := Lib.hid (ba.grew hg)
        have HV2 := Lib.hid (bv.grew hg)
        have HZ2 := Lib.hid (bz.grew hg)
        have HG2 := Lib.hid (bg.trans hg)
        clear hg ba bv bz bg HA1 HV1 HZ1 HG1
        clear la a0 a1 a2 a3 a4 a5 a6 a7 a8 a9 b0 b1 b2 b3 b4 b5 b6 b7 b8 b9 lv v0 v1 v2 lz z0 z1 z2 z3 z4 z5 z6 z7 z8 z9 y0 y1 y2 y3 y4 y5 y6 y7 y8 y9
        obtain ⟨la, a0, a1, a2, a3, a4, a5, a6, a7, a8, a9⟩ := acc_in HA2.out
        obtain ⟨b0, b1, b2, b3, b4, b5, b6, b7, b8, b9⟩ := acc_th HA2.out
        obtain ⟨lv, v0, v1, v2, _, _, _⟩ := val_in HV2.out
        obtain ⟨lz, z0, z1, z2, z3, z4, z5, z6, z7, z8, z9⟩ := acc_in HZ2.out
        obtain ⟨y0, y1, y2, y3, y4, y5, y6, y7, y8, y9⟩ := acc_th HZ2.out
        go_wp2_with fail
        refine (HBT.out _).grows.mono ?_
        rintro e w3 ⟨rfl, hg⟩
        have ba : Blok (((w2.setCell ⟨ga, 4, none⟩ (.int .u64 (H (z + i)))).setCell ⟨ga, 5, none⟩ (.int .u64 (L (z + i)))).setCell ⟨ga, 6, none⟩ (.int .i64 ((zn : Int) + 1))) ga 181 #[.int .i64 op, .int .i64 ((rows : Int) + 1), .int .i64 ((whole : Int) + 1), .bool wrong, .int .u64 (H (z + i)), .int .u64 (L (z + i)), .int .i64 ((zn : Int) + 1), .int .i64 bk, .int .i64 bi, .string bs] := by
          have := (((HA2.out.set 4 (.int .u64 (H (z + i)))).set 5 (.int .u64 (L (z + i)))).set 6 (.int .i64 ((zn : Int) + 1)))
          simpa using this
        have bv : Blok (((w2.setCell ⟨ga, 4, none⟩ (.int .u64 (H (z + i)))).setCell ⟨ga, 5, none⟩ (.int .u64 (L (z + i)))).setCell ⟨ga, 6, none⟩ (.int .i64 ((zn : Int) + 1))) (ga + 1) 27 #[.int .i64 1, .int .i64 i, .string s] := by
          repeat (first | with_reducible exact HV2.out | refine Blok.far ?_ (by simp) _)
        have bz : Blok (((w2.setCell ⟨ga, 4, none⟩ (.int .u64 (H (z + i)))).setCell ⟨ga, 5, none⟩ (.int .u64 (L (z + i)))).setCell ⟨ga, 6, none⟩ (.int .i64 ((zn : Int) + 1))) (ga + 1 + 1) 181 #[.int .i64 0, .int .i64 0, .int .i64 0, .bool false, .int .u64 0, .int .u64 0, .int .i64 0, .int .i64 0, .int .i64 0, .string ⟨#[]⟩] := by
          repeat (first | with_reducible exact HZ2.out | refine Blok.far ?_ (by simp <;> omega) _)
        have bg : Grew w (((w2.setCell ⟨ga, 4, none⟩ (.int .u64 (H (z + i)))).setCell ⟨ga, 5, none⟩ (.int .u64 (L (z + i)))).setCell ⟨ga, 6, none⟩ (.int .i64 ((zn : Int) + 1))) := by
          repeat (first | with_reducible exact HG2.out | refine Grew.setCell ?_ (by rw [HGA.out]; exact Nat.le_refl _) _)
        have HA3 := Lib.hid (ba.grew hg)
        have HV3 := Lib.hid (bv.grew hg)
        have HZ3 := Lib.hid (bz.grew hg)
        have HG3 := Lib.hid (bg.trans hg)
        clear hg ba bv bz bg HA2 HV2 HZ2 HG2
        clear la a0 a1 a2 a3 a4 a5 a6 a7 a8 a9 b0 b1 b2 b3 b4 b5 b6 b7 b8 b9 lv v0 v1 v2 lz z0 z1 z2 z3 z4 z5 z6 z7 z8 z9 y0 y1 y2 y3 y4 y5 y6 y7 y8 y9
        obtain ⟨la, a0, a1, a2, a3, a4, a5, a6, a7, a8, a9⟩ := acc_in HA3.out
        obtain ⟨b0, b1, b2, b3, b4, b5, b6, b7, b8, b9⟩ := acc_th HA3.out
        obtain ⟨lv, v0, v1, v2, _, _, _⟩ := val_in HV3.out
        obtain ⟨lz, z0, z1, z2, z3, z4, z5, z6, z7, z8, z9⟩ := acc_in HZ3.out
        obtain ⟨y0, y1, y2, y3, y4, y5, y6, y7, y8, y9⟩ := acc_th HZ3.out
        go_wp2
        have bz : Blok w3 (ga + 1 + 1) 181 #[.int .i64 0, .int .i64 0, .int .i64 0, .bool false, .int .u64 0, .int .u64 0, .int .i64 0, .int .i64 0, .int .i64 0, .string ⟨#[]⟩] := by
          repeat (first | with_reducible exact HZ3.out | refine Blok.far ?_ (by simp <;> omega) _)
        have bg : Grew w w3 := by
          repeat (first | with_reducible exact HG3.out | refine Grew.setCell ?_ (by rw [HGA.out]; exact Nat.le_refl _) _)
        have hb := acc_set bz (.int .i64 op) (.int .i64 ((rows : Int) + 1)) (.int .i64 ((whole : Int) + 1)) (.bool wrong) (.int .u64 (H (z + i))) (.int .u64 (L (z + i))) (.int .i64 ((zn : Int) + 1)) (.int .i64 bk) (.int .i64 bi) (.string bs)
        obtain ⟨_, r0, r1, r2, r3, r4, r5, r6, r7, r8, r9⟩ := acc_in hb
        exact bodyPost_ret (v := .agg #[.int .i64 op, .int .i64 ((rows : Int) + 1), .int .i64 ((whole : Int) + 1), .bool wrong, .int .u64 (H (z + i)), .int .u64 (L (z + i)), .int .i64 ((zn : Int) + 1), .int .i64 bk, .int .i64 bi, .string bs]) (by simp [results, Try.results176, go_sem, r0, r1, r2, r3, r4, r5, r6, r7, r8, r9]) rfl ⟨rfl, grew_set10 bg (by rw [HGA.out]; omega) _ _ _ _ _ _ _ _ _ _⟩
    · rw [if_neg h1, if_neg h1, if_neg h1]
      have hk1 : (k == 1) = false := by simpa using h1
      clear h1
      rcases hcase with ⟨c1, rfl⟩ | ⟨c1, rfl, rfl⟩ | ⟨c1, rfl, rfl⟩
      · subst c1
        push_cast at *
        unfold Gives
        go_enter Try.func176, Try.ntmps176
        go_wp2_with fail
        refine (HNu.out _).grows.mono ?_
        rintro e w1 ⟨rfl, hg1⟩
        have HG1 : Hid (Grew w w1) := Lib.hid (((((Grew.refl w).alloc _).alloc _).alloc _).trans hg1)
        have HA1 : Hid (Blok w1 w.heap.size 181 #[.int .i64 op, .int .i64 ((rows : Int) + 1), .int .i64 0, .bool wrong, .int .u64 (H z), .int .u64 (L z), .int .i64 zn, .int .i64 bk, .int .i64 bi, .string bs]) := Lib.hid ((((Blok.new _ _ _ _ rfl).alloc _).alloc _).grew hg1)
        have HV1 : Hid (Blok w1 (w.heap.size + 1) 27 #[.int .i64 k, .int .i64 i, .string s]) := Lib.hid (((Blok.new _ _ _ _ (by simp)).alloc _).grew hg1)
        have HZ1 : Hid (Blok w1 (w.heap.size + 1 + 1) 181 #[.int .i64 0, .int .i64 0, .int .i64 0, .bool false, .int .u64 0, .int .u64 0, .int .i64 0, .int .i64 0, .int .i64 0, .string ⟨#[]⟩]) := Lib.hid ((Blok.new _ _ _ _ (by simp)).grew hg1)
        clear hg1 HNu
        generalize hga : w.heap.size = ga at *
        have HGA := Lib.hid hga
        clear hga
        obtain ⟨la, a0, a1, a2, a3, a4, a5, a6, a7, a8, a9⟩ := acc_in HA1.out
        obtain ⟨b0, b1, b2, b3, b4, b5, b6, b7, b8, b9⟩ := acc_th HA1.out
        obtain ⟨lv, v0, v1, v2, _, _, _⟩ := val_in HV1.out
        obtain ⟨lz, z0, z1, z2, z3, z4, z5, z6, z7, z8, z9⟩ := acc_in HZ1.out
        obtain ⟨y0, y1, y2, y3, y4, y5, y6, y7, y8, y9⟩ := acc_th HZ1.out
        go_wp2
        have bz : Blok (((((w1.setCell ⟨ga, 2, none⟩ (.int .i64 1)).setCell ⟨ga, 3, none⟩ (.bool true)).setCell ⟨ga, 7, none⟩ (.int .i64 k)).setCell ⟨ga, 8, none⟩ (.int .i64 i)).setCell ⟨ga, 9, none⟩ (.string s)) (ga + 1 + 1) 181 #[.int .i64 0, .int .i64 0, .int .i64 0, .bool false, .int .u64 0, .int .u64 0, .int .i64 0, .int .i64 0, .int .i64 0, .string ⟨#[]⟩] := by
          repeat (first | with_reducible exact HZ1.out | refine Blok.far ?_ (by simp <;> omega) _)
        have bg : Grew w (((((w1.setCell ⟨ga, 2, none⟩ (.int .i64 1)).setCell ⟨ga, 3, none⟩ (.bool true)).setCell ⟨ga, 7, none⟩ (.int .i64 k)).setCell ⟨ga, 8, none⟩ (.int .i64 i)).setCell ⟨ga, 9, none⟩ (.string s)) := by
          repeat (first | with_reducible exact HG1.out | refine Grew.setCell ?_ (by rw [HGA.out]; exact Nat.le_refl _) _)
        have hb := acc_set bz (.int .i64 op) (.int .i64 ((rows : Int) + 1)) (.int .i64 1) (.bool true) (.int .u64 (H z)) (.int .u64 (L z)) (.int .i64 zn) (.int .i64 k) (.int .i64 i) (.string s)
        obtain ⟨_, r0, r1, r2, r3, r4, r5, r6, r7, r8, r9⟩ := acc_in hb
        exact bodyPost_ret (v := .agg #[.int .i64 op, .int .i64 ((rows : Int) + 1), .int .i64 1, .bool true, .int .u64 (H z), .int .u64 (L z), .int .i64 zn, .int .i64 k, .int .i64 i, .string s]) (by simp [results, Try.results176, go_sem, r0, r1, r2, r3, r4, r5, r6, r7, r8, r9]) rfl ⟨rfl, grew_set10 bg (by rw [HGA.out]; omega) _ _ _ _ _ _ _ _ _ _⟩
      · have c3 : ((whole : Int) + 1 == 1) = false := by simp at c1 ⊢; omega
        unfold Gives
        go_enter Try.func176, Try.ntmps176
        go_wp2_with fail
        refine (HNu.out _).grows.mono ?_
        rintro e w1 ⟨rfl, hg1⟩
        have HG1 : Hid (Grew w w1) := Lib.hid (((((Grew.refl w).alloc _).alloc _).alloc _).trans hg1)
        have HA1 : Hid (Blok w1 w.heap.size 181 #[.int .i64 op, .int .i64 ((rows : Int) + 1), .int .i64 whole, .bool wrong, .int .u64 (H z), .int .u64 (L z), .int .i64 zn, .int .i64 bk, .int .i64 bi, .string bs]) := Lib.hid ((((Blok.new _ _ _ _ rfl).alloc _).alloc _).grew hg1)
        have HV1 : Hid (Blok w1 (w.heap.size + 1) 27 #[.int .i64 k, .int .i64 i, .string s]) := Lib.hid (((Blok.new _ _ _ _ (by simp)).alloc _).grew hg1)
        have HZ1 : Hid (Blok w1 (w.heap.size + 1 + 1) 181 #[.int .i64 0, .int .i64 0, .int .i64 0, .bool false, .int .u64 0, .int .u64 0, .int .i64 0, .int .i64 0, .int .i64 0, .string ⟨#[]⟩]) := Lib.hid ((Blok.new _ _ _ _ (by simp)).grew hg1)
        clear hg1 HNu
        generalize hga : w.heap.size = ga at *
        have HGA := Lib.hid hga
        clear hga
        obtain ⟨la, a0, a1, a2, a3, a4, a5, a6, a7, a8, a9⟩ := acc_in HA1.out
        obtain ⟨b0, b1, b2, b3, b4, b5, b6, b7, b8, b9⟩ := acc_th HA1.out
        obtain ⟨lv, v0, v1, v2, _, _, _⟩ := val_in HV1.out
        obtain ⟨lz, z0, z1, z2, z3, z4, z5, z6, z7, z8, z9⟩ := acc_in HZ1.out
        obtain ⟨y0, y1, y2, y3, y4, y5, y6, y7, y8, y9⟩ := acc_th HZ1.out
        go_wp2_with fail
        refine (HBT.out _).grows.mono ?_
        rintro e w2 ⟨rfl, hg⟩
        have ba : Blok ((w1.setCell ⟨ga, 2, none⟩ (.int .i64 ((whole : Int) + 1))).setCell ⟨ga, 3, none⟩ (.bool true)) ga 181 #[.int .i64 op, .int .i64 ((rows : Int) + 1), .int .i64 ((whole : Int) + 1), .bool true, .int .u64 (H z), .int .u64 (L z), .int .i64 zn, .int .i64 bk, .int .i64 bi, .string bs] := by
          have := ((HA1.out.set 2 (.int .i64 ((whole : Int) + 1))).set 3 (.bool true))
          simpa using this
        have bv : Blok ((w1.setCell ⟨ga, 2, none⟩ (.int .i64 ((whole : Int) + 1))).setCell ⟨ga, 3, none⟩ (.bool true)) (ga + 1) 27 #[.int .i64 k, .int .i64 i, .string s] := by
          repeat (first | with_reducible exact HV1.out | refine Blok.far ?_ (by simp) _)
        have bz : Blok ((w1.setCell ⟨ga, 2, none⟩ (.int .i64 ((whole : Int) + 1))).setCell ⟨ga, 3, none⟩ (.bool true)) (ga + 1 + 1) 181 #[.int .i64 0, .int .i64 0, .int .i64 0, .bool false, .int .u64 0, .int .u64 0, .int .i64 0, .int .i64 0, .int .i64 0, .string ⟨#[]⟩] := by
          repeat (first | with_reducible exact HZ1.out | refine Blok.far ?_ (by simp <;> omega) _)
        have bg : Grew w ((w1.setCell ⟨ga, 2, none⟩ (.int .i64 ((whole : Int) + 1))).setCell ⟨ga, 3, none⟩ (.bool true)) := by
          repeat (first | with_reducible exact HG1.out | refine Grew.setCell ?_ (by rw [HGA.out]; exact Nat.le_refl _) _)
        have HA2 := Lib.hid (ba.grew hg)
        have HV2 := Lib.hid (bv.grew hg)
        have HZ2 := Lib.hid (bz.grew hg)
        have HG2 := Lib.hid (bg.trans hg)
        clear hg ba bv bz bg HA1 HV1 HZ1 HG1
        clear la a0 a1 a2 a3 a4 a5 a6 a7 a8 a9 b0 b1 b2 b3 b4 b5 b6 b7 b8 b9 lv v0 v1 v2 lz z0 z1 z2 z3 z4 z5 z6 z7 z8 z9 y0 y1 y2 y3 y4 y5 y6 y7 y8 y9
        obtain ⟨la, a0, a1, a2, a3, a4, a5, a6, a7, a8, a9⟩ := acc_in HA2.out
        obtain ⟨b0, b1, b2, b3, b4, b5, b6, b7, b8, b9⟩ := acc_th HA2.out
        obtain ⟨lv, v0, v1, v2, _, _, _⟩ := val_in HV2.out
        obtain ⟨lz, z0, z1, z2, z3, z4, z5, z6, z7, z8, z9⟩ := acc_in HZ2.out
        obtain ⟨y0, y1, y2, y3, y4, y5, y6, y7, y8, y9⟩ := acc_th HZ2.out
        go_wp2
        have bz : Blok (((w2.setCell ⟨ga, 7, none⟩ (.int .i64 k)).setCell ⟨ga, 8, none⟩ (.int .i64 i)).setCell ⟨ga, 9, none⟩ (.string s)) (ga + 1 + 1) 181 #[.int .i64 0, .int .i64 0, .int .i64 0, .bool false, .int .u64 0, .int .u64 0, .int .i64 0, .int .i64 0, .int .i64 0, .string ⟨#[]⟩] := by
          repeat (first | with_reducible exact HZ2.out | refine Blok.far ?_ (by simp <;> omega) _)
        have bg : Grew w (((w2.setCell ⟨ga, 7, none⟩ (.int .i64 k)).setCell ⟨ga, 8, none⟩ (.int .i64 i)).setCell ⟨ga, 9, none⟩ (.string s)) := by
          repeat (first | with_reducible exact HG2.out | refine Grew.setCell ?_ (by rw [HGA.out]; exact Nat.le_refl _) _)
        have hb := acc_set bz (.int .i64 op) (.int .i64 ((rows : Int) + 1)) (.int .i64 ((whole : Int) + 1)) (.bool true) (.int .u64 (H z)) (.int .u64 (L z)) (.int .i64 zn) (.int .i64 k) (.int .i64 i) (.string s)
        obtain ⟨_, r0, r1, r2, r3, r4, r5, r6, r7, r8, r9⟩ := acc_in hb
        exact bodyPost_ret (v := .agg #[.int .i64 op, .int .i64 ((rows : Int) + 1), .int .i64 ((whole : Int) + 1), .bool true, .int .u64 (H z), .int .u64 (L z), .int .i64 zn, .int .i64 k, .int .i64 i, .string s]) (by simp [results, Try.results176, go_sem, r0, r1, r2, r3, r4, r5, r6, r7, r8, r9]) rfl ⟨rfl, grew_set10 bg (by rw [HGA.out]; omega) _ _ _ _ _ _ _ _ _ _⟩
      · have c3 : ((whole : Int) + 1 == 1) = false := by simp at c1 ⊢; omega
        unfold Gives
        go_enter Try.func176, Try.ntmps176
        go_wp2_with fail
        refine (HNu.out _).grows.mono ?_
        rintro e w1 ⟨rfl, hg1⟩
        have HG1 : Hid (Grew w w1) := Lib.hid (((((Grew.refl w).alloc _).alloc _).alloc _).trans hg1)
        have HA1 : Hid (Blok w1 w.heap.size 181 #[.int .i64 op, .int .i64 ((rows : Int) + 1), .int .i64 whole, .bool wrong, .int .u64 (H z), .int .u64 (L z), .int .i64 zn, .int .i64 bk, .int .i64 bi, .string bs]) := Lib.hid ((((Blok.new _ _ _ _ rfl).alloc _).alloc _).grew hg1)
        have HV1 : Hid (Blok w1 (w.heap.size + 1) 27 #[.int .i64 k, .int .i64 i, .string s]) := Lib.hid (((Blok.new _ _ _ _ (by simp)).alloc _).grew hg1)
        have HZ1 : Hid (Blok w1 (w.heap.size + 1 + 1) 181 #[.int .i64 0, .int .i64 0, .int .i64 0, .bool false, .int .u64 0, .int .u64 0, .int .i64 0, .int .i64 0, .int .i64 0, .string ⟨#[]⟩]) := Lib.hid ((Blok.new _ _ _ _ (by simp)).grew hg1)
        clear hg1 HNu
        generalize hga : w.heap.size = ga at *
        have HGA := Lib.hid hga
        clear hga
        obtain ⟨la, a0, a1, a2, a3, a4, a5, a6, a7, a8, a9⟩ := acc_in HA1.out
        obtain ⟨b0, b1, b2, b3, b4, b5, b6, b7, b8, b9⟩ := acc_th HA1.out
        obtain ⟨lv, v0, v1, v2, _, _, _⟩ := val_in HV1.out
        obtain ⟨lz, z0, z1, z2, z3, z4, z5, z6, z7, z8, z9⟩ := acc_in HZ1.out
        obtain ⟨y0, y1, y2, y3, y4, y5, y6, y7, y8, y9⟩ := acc_th HZ1.out
        go_wp2_with fail
        refine (HBT.out _).grows.mono ?_
        rintro e w2 ⟨rfl, hg⟩
        have ba : Blok ((w1.setCell ⟨ga, 2, none⟩ (.int .i64 ((whole : Int) + 1))).setCell ⟨ga, 3, none⟩ (.bool true)) ga 181 #[.int .i64 op, .int .i64 ((rows : Int) + 1), .int .i64 ((whole : Int) + 1), .bool true, .int .u64 (H z), .int .u64 (L z), .int .i64 zn, .int .i64 bk, .int .i64 bi, .string bs] := by
          have := ((HA1.out.set 2 (.int .i64 ((whole : Int) + 1))).set 3 (.bool true))
          simpa using this
        have bv : Blok ((w1.setCell ⟨ga, 2, none⟩ (.int .i64 ((whole : Int) + 1))).setCell ⟨ga, 3, none⟩ (.bool true)) (ga + 1) 27 #[.int .i64 k, .int .i64 i, .string s] := by
          repeat (first | with_reducible exact HV1.out | refine Blok.far ?_ (by simp) _)
        have bz : Blok ((w1.setCell ⟨ga, 2, none⟩ (.int .i64 ((whole : Int) + 1))).setCell ⟨ga, 3, none⟩ (.bool true)) (ga + 1 + 1) 181 #[.int .i64 0, .int .i64 0, .int .i64 0, .bool false, .int .u64 0, .int .u64 0, .int .i64 0, .int .i64 0, .int .i64 0, .string ⟨#[]⟩] := by
          repeat (first | with_reducible exact HZ1.out | refine Blok.far ?_ (by simp <;> omega) _)
        have bg : Grew w ((w1.setCell ⟨ga, 2, none⟩ (.int .i64 ((whole : Int) + 1))).setCell ⟨ga, 3, none⟩ (.bool true)) := by
          repeat (first | with_reducible exact HG1.out | refine Grew.setCell ?_ (by rw [HGA.out]; exact Nat.le_refl _) _)
        have HA2 := Lib.hid (ba.grew hg)
        have HV2 := Lib.hid (bv.grew hg)
        have HZ2 := Lib.hid (bz.grew hg)
        have HG2 := Lib.hid (bg.trans hg)
        clear hg ba bv bz bg HA1 HV1 HZ1 HG1
        clear la a0 a1 a2 a3 a4 a5 a6 a7 a8 a9 b0 b1 b2 b3 b4 b5 b6 b7 b8 b9 lv v0 v1 v2 lz z0 z1 z2 z3 z4 z5 z6 z7 z8 z9 y0 y1 y2 y3 y4 y5 y6 y7 y8 y9
        obtain ⟨la, a0, a1, a2, a3, a4, a5, a6, a7, a8, a9⟩ := acc_in HA2.out
        obtain ⟨b0, b1, b2, b3, b4, b5, b6, b7, b8, b9⟩ := acc_th HA2.out
        obtain ⟨lv, v0, v1, v2, _, _, _⟩ := val_in HV2.out
        obtain ⟨lz, z0, z1, z2, z3, z4, z5, z6, z7, z8, z9⟩ := acc_in HZ2.out
        obtain ⟨y0, y1, y2, y3, y4, y5, y6, y7, y8, y9⟩ := acc_th HZ2.out
        go_wp2
        have bz : Blok w2 (ga + 1 + 1) 181 #[.int .i64 0, .int .i64 0, .int .i64 0, .bool false, .int .u64 0, .int .u64 0, .int .i64 0, .int .i64 0, .int .i64 0, .string ⟨#[]⟩] := by
          repeat (first | with_reducible exact HZ2.out | refine Blok.far ?_ (by simp <;> omega) _)
        have bg : Grew w w2 := by
          repeat (first | with_reducible exact HG2.out | refine Grew.setCell ?_ (by rw [HGA.out]; exact Nat.le_refl _) _)
        have hb := acc_set bz (.int .i64 op) (.int .i64 ((rows : Int) + 1)) (.int .i64 ((whole : Int) + 1)) (.bool true) (.int .u64 (H z)) (.int .u64 (L z)) (.int .i64 zn) (.int .i64 bk) (.int .i64 bi) (.string bs)
        obtain ⟨_, r0, r1, r2, r3, r4, r5, r6, r7, r8, r9⟩ := acc_in hb
        exact bodyPost_ret (v := .agg #[.int .i64 op, .int .i64 ((rows : Int) + 1), .int .i64 ((whole : Int) + 1), .bool true, .int .u64 (H z), .int .u64 (L z), .int .i64 zn, .int .i64 bk, .int .i64 bi, .string bs]) (by simp [results, Try.results176, go_sem, r0, r1, r2, r3, r4, r5, r6, r7, r8, r9]) rfl ⟨rfl, grew_set10 bg (by rw [HGA.out]; omega) _ _ _ _ _ _ _ _ _ _⟩
end Go.Proofs.Ytfdjnhnchibejaa

/- Layer 14: what an aggregate tells in the end, and of a list. Condition: no more than a hundred thousand values. -/
namespace Go.Proofs.Ytfdjnhnchibejaa
open Go.RowKit
attribute [local go_sem] more_cell more_frozen more_more more_setCell more_of_drew more_of_drewN lt_more le_more past_cell past_cell2 past_frozen past_frozen2 past_setCell past_setCell2 mid_cell mid_frozen mid_setCell
attribute [local go_sem ↓] Go.wp_at_zero Go.wp_at_succ

theorem resS_cases (a : AccS) : (a.op = 17 ∧ resS a = (⟨1, a.rows, ⟨#[]⟩⟩, 0)) ∨ (a.op = 18 ∧ resS a = (⟨1, a.whole, ⟨#[]⟩⟩, 0)) ∨ (a.op = 19 ∧ resS a = totalP a) ∨ (a.op = 20 ∧ resS a = extremeP a) ∨ (a.op = 21 ∧ resS a = extremeP a) ∨ ((a.op == 17) = false ∧ (a.op == 18) = false ∧ (a.op == 19) = false ∧ (a.op == 20) = false ∧ (a.op == 21) = false ∧ resS a = (zV, 3)) := by
  unfold resS totalP extremeP
  by_cases h1 : a.op = 17
  · exact Or.inl ⟨h1, by rw [if_pos h1]⟩
  by_cases h2 : a.op = 18
  · exact Or.inr (Or.inl ⟨h2, by rw [if_neg h1, if_pos h2]⟩)
  by_cases h3 : a.op = 19
  · exact Or.inr (Or.inr (Or.inl ⟨h3, by rw [if_neg h1, if_neg h2, if_pos h3]⟩))
  by_cases h4 : a.op = 20
  · exact Or.inr (Or.inr (Or.inr (Or.inl ⟨h4, by rw [if_neg h1, if_neg h2, if_neg h3, if_pos (Or.inl h4)]⟩)))
  by_cases h5 : a.op = 21
  · exact Or.inr (Or.inr (Or.inr (Or.inr (Or.inl ⟨h5, by rw [if_neg h1, if_neg h2, if_neg h3, if_pos (Or.inr h5)]⟩))))
  · exact Or.inr (Or.inr (Or.inr (Or.inr (Or.inr ⟨by simpa using h1, by simpa using h2, by simpa using h3, by simpa using h4, by simpa using h5, by rw [if_neg h1, if_neg h2, if_neg h3, if_neg (by rintro (h | h); exact h4 h; exact h5 h)]⟩))))
set_option maxHeartbeats 4000000 in
set_option maxRecDepth 100000 in
theorem result_any (a : AccS) (hz : isW a.z) (w : World) : Gives Try.prog 177 #[accV a] w (.tuple #[vlV (resS a).1, .int .i64 (resS a).2]) := by
  have HN : Hid (∀ W, Gives Try.prog 204 #[accV a] W (.tuple #[vlV zV, .int .i64 3])) := Lib.hid fun W => none_any a W
  have HAl : Hid (∀ W, Gives Try.prog 205 #[accV a] W (.tuple #[vlV ⟨1, a.rows, ⟨#[]⟩⟩, .int .i64 0])) := Lib.hid fun W => all_any a W
  have HSo : Hid (∀ W, Gives Try.prog 206 #[accV a] W (.tuple #[vlV ⟨1, a.whole, ⟨#[]⟩⟩, .int .i64 0])) := Lib.hid fun W => some_any a W
  have HTo : Hid (∀ W, Gives Try.prog 207 #[accV a] W (.tuple #[vlV (totalP a).1, .int .i64 (totalP a).2])) := Lib.hid fun W => total_any a hz W
  have HEx : Hid (∀ W, Gives Try.prog 208 #[accV a] W (.tuple #[vlV (extremeP a).1, .int .i64 (extremeP a).2])) := Lib.hid fun W => extreme_any a W
  have hc := resS_cases a
  clear hz
  generalize totalP a = tp at *
  generalize extremeP a = ep at *
  generalize resS a = r at *
  obtain ⟨op, rows, whole, wrong, z, zn, bk, bi, bs⟩ := a
  obtain ⟨⟨tk, ti, ts⟩, te⟩ := tp
  obtain ⟨⟨ek, ei, es⟩, ee⟩ := ep
  unfold accV vlV zV at *
  simp only at *
  generalize H z = hz at *
  generalize L z = lz at *
  rcases hc with ⟨rfl, rfl⟩ | ⟨rfl, rfl⟩ | ⟨rfl, rfl⟩ | ⟨rfl, rfl⟩ | ⟨rfl, rfl⟩ | ⟨h1, h2, h3, h4, h5, rfl⟩
  · simp only
    unfold Gives
    go_enter Try.func177, Try.ntmps177
    go_wp2_with fail
    refine (HAl.out _).grows.mono ?_
    rintro e w1 ⟨rfl, hg1⟩
    have HG1 : Hid (Grew w w1) := Lib.hid ((((Grew.refl w).alloc _).alloc _).trans hg1)
    have HB1 : Hid (Blok w1 (w.heap.size + 1) 27 #[.int .i64 0, .int .i64 0, .string ⟨#[]⟩]) := Lib.hid ((Blok.new _ _ _ _ (by simp)).grew hg1)
    obtain ⟨p1, c0, c1, c2, d0, d1, d2⟩ := val_in HB1.out
    clear hg1
    go_wp2
    have hb := val_set HB1.out (.int .i64 1) (.int .i64 (rows : Int)) (.string ⟨#[]⟩)
    obtain ⟨_, r0, r1, r2, _, _, _⟩ := val_in hb
    exact bodyPost_ret (v := .tuple #[.agg #[.int .i64 1, .int .i64 (rows : Int), .string ⟨#[]⟩], .int .i64 0]) (by simp [results, Try.results177, go_sem, r0, r1, r2]) rfl ⟨rfl, grew_set3 HG1.out (by omega) _ _ _⟩
  · simp only
    unfold Gives
    go_enter Try.func177, Try.ntmps177
    go_wp2_with fail
    refine (HSo.out _).grows.mono ?_
    rintro e w1 ⟨rfl, hg1⟩
    have HG1 : Hid (Grew w w1) := Lib.hid ((((Grew.refl w).alloc _).alloc _).trans hg1)
    have HB1 : Hid (Blok w1 (w.heap.size + 1) 27 #[.int .i64 0, .int .i64 0, .string ⟨#[]⟩]) := Lib.hid ((Blok.new _ _ _ _ (by simp)).grew hg1)
    obtain ⟨p1, c0, c1, c2, d0, d1, d2⟩ := val_in HB1.out
    clear hg1
    go_wp2
    have hb := val_set HB1.out (.int .i64 1) (.int .i64 (whole : Int)) (.string ⟨#[]⟩)
    obtain ⟨_, r0, r1, r2, _, _, _⟩ := val_in hb
    exact bodyPost_ret (v := .tuple #[.agg #[.int .i64 1, .int .i64 (whole : Int), .string ⟨#[]⟩], .int .i64 0]) (by simp [results, Try.results177, go_sem, r0, r1, r2]) rfl ⟨rfl, grew_set3 HG1.out (by omega) _ _ _⟩
  · simp only
    unfold Gives
    go_enter Try.func177, Try.ntmps177
    go_wp2_with fail
    refine (HTo.out _).grows.mono ?_
    rintro e w1 ⟨rfl, hg1⟩
    have HG1 : Hid (Grew w w1) := Lib.hid ((((Grew.refl w).alloc _).alloc _).trans hg1)
    have HB1 : Hid (Blok w1 (w.heap.size + 1) 27 #[.int .i64 0, .int .i64 0, .string ⟨#[]⟩]) := Lib.hid ((Blok.new _ _ _ _ (by simp)).grew hg1)
    obtain ⟨p1, c0, c1, c2, d0, d1, d2⟩ := val_in HB1.out
    clear hg1
    go_wp2
    have hb := val_set HB1.out (.int .i64 tk) (.int .i64 ti) (.string ts)
    obtain ⟨_, r0, r1, r2, _, _, _⟩ := val_in hb
    exact bodyPost_ret (v := .tuple #[.agg #[.int .i64 tk, .int .i64 ti, .string ts], .int .i64 te]) (by simp [results, Try.results177, go_sem, r0, r1, r2]) rfl ⟨rfl, grew_set3 HG1.out (by omega) _ _ _⟩
  · simp only
    unfold Gives
    go_enter Try.func177, Try.ntmps177
    go_wp2_with fail
    refine (HEx.out _).grows.mono ?_
    rintro e w1 ⟨rfl, hg1⟩
    have HG1 : Hid (Grew w w1) := Lib.hid ((((Grew.refl w).alloc _).alloc _).trans hg1)
    have HB1 : Hid (Blok w1 (w.heap.size + 1) 27 #[.int .i64 0, .int .i64 0, .string ⟨#[]⟩]) := Lib.hid ((Blok.new _ _ _ _ (by simp)).grew hg1)
    obtain ⟨p1, c0, c1, c2, d0, d1, d2⟩ := val_in HB1.out
    clear hg1
    go_wp2
    have hb := val_set HB1.out (.int .i64 ek) (.int .i64 ei) (.string es)
    obtain ⟨_, r0, r1, r2, _, _, _⟩ := val_in hb
    exact bodyPost_ret (v := .tuple #[.agg #[.int .i64 ek, .int .i64 ei, .string es], .int .i64 ee]) (by simp [results, Try.results177, go_sem, r0, r1, r2]) rfl ⟨rfl, grew_set3 HG1.out (by omega) _ _ _⟩
  · simp only
    unfold Gives
    go_enter Try.func177, Try.ntmps177
    go_wp2_with fail
    refine (HEx.out _).grows.mono ?_
    rintro e w1 ⟨rfl, hg1⟩
    have HG1 : Hid (Grew w w1) := Lib.hid ((((Grew.refl w).alloc _).alloc _).trans hg1)
    have HB1 : Hid (Blok w1 (w.heap.size + 1) 27 #[.int .i64 0, .int .i64 0, .string ⟨#[]⟩]) := Lib.hid ((Blok.new _ _ _ _ (by simp)).grew hg1)
    obtain ⟨p1, c0, c1, c2, d0, d1, d2⟩ := val_in HB1.out
    clear hg1
    go_wp2
    have hb := val_set HB1.out (.int .i64 ek) (.int .i64 ei) (.string es)
    obtain ⟨_, r0, r1, r2, _, _, _⟩ := val_in hb
    exact bodyPost_ret (v := .tuple #[.agg #[.int .i64 ek, .int .i64 ei, .string es], .int .i64 ee]) (by simp [results, Try.results177, go_sem, r0, r1, r2]) rfl ⟨rfl, grew_set3 HG1.out (by omega) _ _ _⟩
  · simp only
    unfold Gives
    go_enter Try.func177, Try.ntmps177
    go_wp2_with fail
    refine (HN.out _).grows.mono ?_
    rintro e w1 ⟨rfl, hg1⟩
    have HG1 : Hid (Grew w w1) := Lib.hid ((((Grew.refl w).alloc _).alloc _).trans hg1)
    have HB1 : Hid (Blok w1 (w.heap.size + 1) 27 #[.int .i64 0, .int .i64 0, .string ⟨#[]⟩]) := Lib.hid ((Blok.new _ _ _ _ (by simp)).grew hg1)
    obtain ⟨p1, c0, c1, c2, d0, d1, d2⟩ := val_in HB1.out
    clear hg1
    go_wp2
    have hb := val_set HB1.out (.int .i64 0) (.int .i64 0) (.string ⟨#[]⟩)
    obtain ⟨_, r0, r1, r2, _, _, _⟩ := val_in hb
    exact bodyPost_ret (v := .tuple #[.agg #[.int .i64 0, .int .i64 0, .string ⟨#[]⟩], .int .i64 3]) (by simp [results, Try.results177, go_sem, r0, r1, r2]) rfl ⟨rfl, grew_set3 HG1.out (by omega) _ _ _⟩
end Go.Proofs.Ytfdjnhnchibejaa

namespace Go.Proofs.Ytfdjnhnchibejaa
open Go.RowKit
attribute [local go_sem] more_cell more_frozen more_more more_setCell more_of_drew more_of_drewN lt_more le_more past_cell past_cell2 past_frozen past_frozen2 past_setCell past_setCell2 mid_cell mid_frozen mid_setCell
attribute [local go_sem ↓] Go.wp_at_zero Go.wp_at_succ

def accC (a : AccS) : Array Value := #[.int .i64 a.op, .int .i64 a.rows, .int .i64 a.whole, .bool a.wrong, .int .u64 (H a.z), .int .u64 (L a.z), .int .i64 a.zn, .int .i64 a.best.k, .int .i64 a.best.i, .string a.best.s]
theorem accL_take {op : Int} {l : List Vl} {j : Nat} (h : j < l.length) : accL op (l.take (j + 1)) = feedS (accL op (l.take j)) l[j] := by
  rw [List.take_succ_eq_append_getElem h, accL_snoc]
theorem accL_isW (op : Int) (l : List Vl) (hl : l.length ≤ 100000) (hv : ∀ v ∈ l, VlOk v) : isW (accL op l).z := by
  rw [accL_def]
  have h := sum_bound (numL (someL l)) (numL_ok (someL_ok hv)) (numL (someL l)).length
  rw [List.take_length] at h
  have h2 : (numL (someL l)).length ≤ 100000 := Nat.le_trans (numL_le _) (Nat.le_trans (someL_le l) hl)
  show isW (sumL (numL (someL l)))
  unfold isW
  omega
def OfAt (w : World) (op : Int) (l : List Vl) (g gr : Nat) (i : Value) (wr : World) : Prop :=
  ∃ j : Nat, j ≤ l.length ∧ i = .int .i64 j ∧ Grew w wr ∧ Blok wr g 181 (accC (accL op (l.take j))) ∧ Blok wr gr 27 #[.int .i64 0, .int .i64 0, .string ⟨#[]⟩]
set_option maxHeartbeats 4000000 in
set_option maxRecDepth 100000 in
theorem of_any14 (op : Int) (l : List Vl) (hl : l.length ≤ 100000) (hv : ∀ v ∈ l, VlOk v) (A : Option Addr) (k : Nat) (w : World) (ra : VlsR (PRow w) A l) :
    Gives Try.prog 110 #[.int .i64 op, .slice A l.length k] w (.tuple #[vlV (resS (accL op l)).1, .int .i64 (resS (accL op l)).2]) := by
  have HR : Hid (∀ W, Gives Try.prog 177 #[accV (accL op l)] W (.tuple #[vlV (resS (accL op l)).1, .int .i64 (resS (accL op l)).2])) := Lib.hid fun W => result_any _ (accL_isW op l hl hv) W
  have HS : Hid (∀ W, Gives Try.prog 175 #[.int .i64 op] W (accV (startS op))) := Lib.hid fun W => start_any op W
  have HF : Hid (∀ j (h : j < l.length) W, Gives Try.prog 176 #[accV (accL op (l.take j)), vlV l[j]] W (accV (accL op (l.take (j + 1))))) := Lib.hid fun j h W => by
    rw [accL_take h]
    have hb := accL_bounds op (l.take j)
    have hlt : (l.take j).length ≤ l.length := by rw [List.length_take]; omega
    exact feed_any _ _ (by omega) (by omega) (by omega) (isI_of_wf (hv _ (List.getElem_mem h)).2.1) W
  have RA := Lib.hid ra
  obtain ⟨⟨⟨rk, ri, rs⟩, re⟩, hr⟩ : ∃ r, resS (accL op l) = r := ⟨_, rfl⟩
  rw [hr] at HR ⊢
  clear hr ra hv
  unfold Gives
  go_enter Try.func110, Try.ntmps110
  go_wp2_with fail
  refine (HS.out _).grows.mono ?_
  rintro e w1 ⟨rfl, hg1⟩
  have HG1 : Hid (Grew w w1) := Lib.hid (((Grew.refl w).alloc _).trans hg1)
  have HB1 : Hid (Blok w1 w.heap.size 27 #[.int .i64 0, .int .i64 0, .string ⟨#[]⟩]) := Lib.hid ((Blok.new _ _ _ _ rfl).grew hg1)
  have HA0 : accV (startS op) = .agg (accC (accL op (l.take 0))) := rfl
  rw [HA0]
  clear hg1 HS HA0
  generalize hgr : w.heap.size = gr at *
  have HGR := Lib.hid hgr
  clear hgr
  obtain ⟨W2, hW2⟩ : ∃ W2, W2 = w1.alloc (.cells (accC (accL op (l.take 0))) 181) := ⟨_, rfl⟩
  have HB2 : Hid (Blok W2 w1.heap.size 181 (accC (accL op (l.take 0)))) := Lib.hid (by rw [hW2]; exact Blok.new _ _ _ _ rfl)
  have HR2 : Hid (Blok W2 gr 27 #[.int .i64 0, .int .i64 0, .string ⟨#[]⟩]) := Lib.hid (by rw [hW2]; exact HB1.out.alloc _)
  have HG2 : Hid (Grew w W2) := Lib.hid (by rw [hW2]; exact HG1.out.alloc _)
  have HLE : Hid (w.heap.size ≤ w1.heap.size) := Lib.hid HG1.out.size
  have HNE : Hid (gr ≠ w1.heap.size) := Lib.hid (by have := HB1.out.lt; omega)
  obtain ⟨a0, ha0⟩ : ∃ a0, accL op (l.take 0) = a0 := ⟨_, rfl⟩
  rw [ha0] at hW2 HB2 ⊢
  have HA0 := Lib.hid ha0
  clear ha0
  unfold accC at hW2 ⊢
  go_upto_region 2 with fail
  rw [← hW2]
  clear hW2 HB1 HG1
  generalize w1.heap.size = g at *
  go_wp2
  go_loopw [13] (fun i wr => OfAt w op l g gr i wr) (fun i _ => l.length - (intOf i).toNat)
  case atStart => exact ⟨0, Nat.zero_le _, rfl, HG2.out, by rw [HA0.out]; exact HB2.out, HR2.out⟩
  case round =>
    obtain ⟨j, hj, rfl, hg, hb, hbr⟩ := hrel
    have HG := Lib.hid hg
    have HB := Lib.hid hb
    have HBR := Lib.hid hbr
    clear hg hb hbr HG2 HB2 HR2
    by_cases h : j < l.length
    · obtain ⟨b, o, rfl, hlb, q0, q1, q2⟩ := vlsR_at (RA.out.grew HG.out) h
      have HFj := Lib.hid (HF.out j h)
      clear HF
      obtain ⟨a', ha'⟩ : ∃ a', accL op (l.take (j + 1)) = a' := ⟨_, rfl⟩
      rw [ha'] at HFj
      have HA' := Lib.hid ha'
      clear ha'
      generalize accL op (l.take j) = a at *
      generalize l[j] = v at *
      unfold accV vlV at HFj
      unfold accC at *
      obtain ⟨la, a0, a1, a2, a3, a4, a5, a6, a7, a8, a9⟩ := acc_in HB.out
      go_wp2_with fail
      refine (HFj.out _).grows.mono ?_
      rintro e w3 ⟨rfl, hg3⟩
      have HG3 := Lib.hid ((HG.out.alloc _).trans hg3)
      have HB3 := Lib.hid ((HB.out.alloc _).grew hg3)
      have HBR3 := Lib.hid ((HBR.out.alloc _).grew hg3)
      clear hg3 HFj la a0 a1 a2 a3 a4 a5 a6 a7 a8 a9
      obtain ⟨la, a0, a1, a2, a3, a4, a5, a6, a7, a8, a9⟩ := acc_in HB3.out
      obtain ⟨b0, b1, b2, b3, b4, b5, b6, b7, b8, b9⟩ := acc_th HB3.out
      go_wp2
      refine ⟨⟨j + 1, by omega, by go_num, ?_, by rw [HA'.out]; exact acc_set HB3.out _ _ _ _ _ _ _ _ _ _, ?_⟩, by simp only [intOf]; omega⟩
      · exact grew_set10 HG3.out HLE.out _ _ _ _ _ _ _ _ _ _
      · iterate 10 refine Blok.far ?_ (by exact HNE.out) _
        exact HBR3.out
    · obtain rfl : j = l.length := by omega
      rw [List.take_length] at HB
      clear HF
      generalize accL op l = a at *
      unfold accV vlV at HR
      simp only at HR
      unfold accC at *
      obtain ⟨la, a0, a1, a2, a3, a4, a5, a6, a7, a8, a9⟩ := acc_in HB.out
      go_wp2_with fail
      refine (HR.out _).grows.mono ?_
      rintro e w3 ⟨rfl, hg3⟩
      have HG3 := Lib.hid (HG.out.trans hg3)
      have HBR3 := Lib.hid (HBR.out.grew hg3)
      clear hg3 HR la a0 a1 a2 a3 a4 a5 a6 a7 a8 a9
      obtain ⟨p1, c0, c1, c2, d0, d1, d2⟩ := val_in HBR3.out
      go_wp2
      have hb := val_set HBR3.out (.int .i64 rk) (.int .i64 ri) (.string rs)
      obtain ⟨_, r0, r1, r2, _, _, _⟩ := val_in hb
      exact bodyPost_ret (v := .tuple #[.agg #[.int .i64 rk, .int .i64 ri, .string rs], .int .i64 re]) (by simp [results, Try.results110, go_sem, r0, r1, r2]) rfl ⟨rfl, grew_set3 HG3.out (by rw [HGR.out]; exact Nat.le_refl _) _ _ _⟩
theorem live14_one : resS (accL 18 [⟨1, 1, ⟨#[]⟩⟩, ⟨0, 0, ⟨#[]⟩⟩]) = (⟨1, 1, ⟨#[]⟩⟩, 0) := rfl
theorem live14_two : resS (accL 5 []) = (zV, 3) := rfl
theorem live14_vals {W : World} {g : Nat} (h : Row W (some ⟨g, 0, none⟩) [.int .i64 1, .int .i64 1, .string ⟨#[]⟩, .int .i64 0, .int .i64 0, .string ⟨#[]⟩]) : VlsR (PRow W) (some ⟨g, 0, none⟩) [⟨1, 1, ⟨#[]⟩⟩, ⟨0, 0, ⟨#[]⟩⟩] :=
  ⟨[[.int .i64 1, .int .i64 1, .string ⟨#[]⟩], [.int .i64 0, .int .i64 0, .string ⟨#[]⟩]], (ListR.nil.snoc (x := (⟨1, 1, ⟨#[]⟩⟩ : Vl)) rfl rfl).snoc (x := (⟨0, 0, ⟨#[]⟩⟩ : Vl)) rfl rfl, h⟩
theorem empty_small : (⟨#[]⟩ : ByteArray).size ≤ 140737488355328 := by show (0 : Nat) ≤ _; omega
set_option maxHeartbeats 4000000 in
set_option maxRecDepth 100000 in
theorem live14_any (w : World) : Gives Try.prog 17 #[] w (.bool true) := by
  have H1 : Hid (∀ W g, Row W (some ⟨g, 0, none⟩) [.int .i64 1, .int .i64 1, .string ⟨#[]⟩, .int .i64 0, .int .i64 0, .string ⟨#[]⟩] → Gives Try.prog 110 #[.int .i64 18, .slice (some ⟨g, 0, none⟩) 2 2] W (.tuple #[.agg #[.int .i64 1, .int .i64 1, .string ⟨#[]⟩], .int .i64 0])) := Lib.hid fun W g h => by
    have := of_any14 18 [⟨1, 1, ⟨#[]⟩⟩, ⟨0, 0, ⟨#[]⟩⟩] (by simp) (by
      intro v hv
      simp only [List.mem_cons, List.not_mem_nil, or_false] at hv
      rcases hv with rfl | rfl
      · exact ⟨by decide, by decide, empty_small⟩
      · exact ⟨by decide, by decide, empty_small⟩) (some ⟨g, 0, none⟩) 2 W (live14_vals h)
    rw [live14_one] at this
    exact this
  have H2 : Hid (∀ W, Gives Try.prog 110 #[.int .i64 5, .slice none 0 0] W (.tuple #[.agg #[.int .i64 0, .int .i64 0, .string ⟨#[]⟩], .int .i64 3])) := Lib.hid fun W => by
    have := of_any14 5 [] (by simp) (by intro v hv; cases hv) none 0 W ⟨[], ListR.nil, Or.inl rfl⟩
    rw [live14_two] at this
    exact this
  unfold Gives
  go_enter Try.func17, Try.ntmps17
  go_wp2_with fail
  refine (H1.out _ _ (row_new w _ _ _ rfl)).grows.mono ?_
  rintro e w1 ⟨rfl, hg1⟩
  have HG1 : Hid (Grew w w1) := Lib.hid (((Grew.refl w).alloc _).trans hg1)
  clear hg1 H1
  go_wp2_with fail
  refine (H2.out _).grows.mono ?_
  rintro e w2 ⟨rfl, hg2⟩
  have HG2 := Lib.hid ((HG1.out.alloc _).trans hg2)
  have HB2 : Hid (Blok w2 w1.heap.size 27 #[.int .i64 1, .int .i64 1, .string ⟨#[]⟩]) := Lib.hid ((Blok.new _ _ _ _ rfl).grew hg2)
  clear hg2 H2
  generalize w1.heap.size = g1 at *
  obtain ⟨p1, c0, c1, c2, d0, d1, d2⟩ := val_in HB2.out
  go_wp2_with (first
    | (go_at_call_of 111 (Value.int .i64 0); (with_reducible refine (code14_any _ _).grows.mono ?_); rintro e w3 ⟨rfl, hg3⟩; have HG3 := Lib.hid ((HG2.out.alloc _).trans hg3); clear hg3)
    | (go_at_call_of 111 (Value.int .i64 3); (with_reducible refine (code14_any _ _).grows.mono ?_); rintro e w4 ⟨rfl, hg4⟩; have HG4 := Lib.hid (HG3.out.trans hg4); clear hg4))
  go_ret
  exact ⟨rfl, HG4.out⟩
end Go.Proofs.Ytfdjnhnchibejaa
