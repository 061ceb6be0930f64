/- Layer 8: which sums, how it binds, how many parts a sign has. Condition: expressions that lie in memory that is there. -/
import Derived.Test.YtddambfniaiogaaTree6
namespace Go.Proofs.Ytddambfniaiogaa
open Go.RowKit
attribute [local go_sem] more_cell more_frozen more_more more_setCell more_of_drew more_of_drewN lt_more le_more past_cell past_cell2 past_frozen past_frozen2 past_setCell past_setCell2 mid_cell mid_frozen mid_setCell
attribute [local go_sem ↓] Go.wp_at_zero Go.wp_at_succ

def SumsAs (w : World) (g : Nat) : Prop := Blok w g 28 #[.func (.func 203) #[] #[.pointer (some ⟨g, 0, none⟩)]]
def IndexR (w : World) (t : Bool) (e : Ending) (w' : World) : Prop := ∃ r : Int, e = .returned (.int .i64 r) ∧ Grew w w' ∧ (decide (0 ≤ r) = t)
def IndexAt (w : World) (l : List Ex) (i : Value) (wr : World) : Prop := ∃ j : Nat, j ≤ l.length ∧ i = .int .i64 j ∧ Grew w wr ∧ sumsL (l.take j) = false
set_option maxHeartbeats 1000000 in
theorem index_sums (g : Nat) (l : List Ex) (A : Option Addr) (k m : Nat) (hm : l.length = m) (hs : m ≤ 1000000) (w : World)
    (ih : ∀ (a : Ex), a ∈ l → ∀ (A : Option Addr) (k : Nat) W, Grew w W → ExsR (PRow W) A a.l → Gives Try.prog 203 #[exV a A k, .pointer (some ⟨g, 0, none⟩)] W (.bool a.sums))
    (ra : ExsR (PRow w) A l) :
    Calls Try.prog 230 #[.slice A m k, .func (.func 203) #[] #[.pointer (some ⟨g, 0, none⟩)]] w (IndexR w (sumsL l)) := by
  have RA := Lib.hid ra
  have HI := Lib.hid ih
  have HM := Lib.hid hm
  obtain ⟨t, ht⟩ : ∃ t, sumsL l = t := ⟨_, rfl⟩
  have HT := Lib.hid ht
  rw [ht]
  clear ra ih hm ht
  go_enter Try.func230, Try.ntmps230
  go_wp2
  go_loopw [8] (fun i wr => IndexAt w l i wr) (fun i _ => m - (intOf i).toNat)
  case atStart => exact ⟨0, Nat.zero_le _, rfl, Grew.refl _, rfl⟩
  case round =>
    obtain ⟨i, hi, rfl, hg, hk⟩ := hrel
    rw [HM.out] at hi
    have HG := Lib.hid hg
    have HK := Lib.hid hk
    clear hg hk
    by_cases h : i < m
    · have h1 : i < l.length := by rw [HM.out]; exact h
      obtain ⟨ba, oa, PA, ka, rfl, hpa, h9⟩ := exsR_nine RA.out h1
      obtain ⟨t2, ht2⟩ : ∃ t2, l[i].sums = t2 := ⟨_, rfl⟩
      have HC : Hid (∀ W, Grew w W → Gives Try.prog 203 #[exV l[i] PA ka, .pointer (some ⟨g, 0, none⟩)] W (.bool t2)) := Lib.hid fun W hW => by
        rw [← ht2]
        exact HI.out _ (List.getElem_mem h1) _ _ W hW (hpa.grew hW)
      have HN : Hid (t2 = false → sumsL (l.take (i + 1)) = false) := Lib.hid fun q => by rw [sumsL_take h1, HK.out, ht2, q]; rfl
      have HF : Hid (t2 = true → t = true) := Lib.hid fun q => HT.out.symm.trans (sumsL_some h1 (ht2.trans q))
      obtain ⟨p0, a0, a1, a2, a3, a4, a5, a6, a7, a8⟩ := h9.grew HG.out
      clear h9 hpa ht2 HI HK
      generalize l[i] = x at *
      clear h1
      unfold exV at HC
      go_upto_region 5 with (go_at_call 203; (with_reducible refine (HC.out _ HG.out).grows.mono ?_); rintro e w2 ⟨rfl, hg2⟩; have HG2 := Lib.hid (HG.out.trans hg2); clear hg2)
      · have e2 : t2 = true := by first | assumption | simp_all
        obtain rfl := HF.out e2
        go_wp2
        go_ret
        exact ⟨i, rfl, HG2.out, by simp⟩
      · have e2 : t2 = false := by first | assumption | simp_all
        go_wp2
        exact ⟨⟨i + 1, by rw [HM.out]; omega, by go_num, HG2.out, HN.out e2⟩, by simp only [intOf]; omega⟩
    · obtain rfl : i = m := by omega
      have hl : t = false := by
        have := HK.out
        rw [List.take_of_length_le (Nat.le_of_eq HM.out), HT.out] at this
        exact this
      subst hl
      go_wp2
      go_ret
      exact ⟨-1, rfl, HG.out, rfl⟩
set_option maxHeartbeats 1000000 in
theorem contains_sums (g : Nat) (l : List Ex) (A : Option Addr) (k m : Nat) (hm : l.length = m) (hs : m ≤ 1000000) (w : World)
    (ih : ∀ (a : Ex), a ∈ l → ∀ (A : Option Addr) (k : Nat) W, Grew w W → ExsR (PRow W) A a.l → Gives Try.prog 203 #[exV a A k, .pointer (some ⟨g, 0, none⟩)] W (.bool a.sums))
    (ra : ExsR (PRow w) A l) :
    Gives Try.prog 204 #[.slice A m k, .func (.func 203) #[] #[.pointer (some ⟨g, 0, none⟩)]] w (.bool (sumsL l)) := by
  have HC := Lib.hid (index_sums g l A k m hm hs w ih ra)
  clear ra ih hm
  generalize sumsL l = t at *
  unfold Gives
  go_enter Try.func204, Try.ntmps204
  go_wp2_with (first | (go_at_call 230; (with_reducible refine HC.out.mono ?_); rintro e w2 ⟨r, rfl, hg2, hr⟩; have HG2 := Lib.hid hg2; have HR := Lib.hid hr; clear hg2 hr))
  go_ret
  exact ⟨ret_bool (by rw [← HR.out]), HG2.out⟩
theorem sums_in {x : Ex} (h : 17 ≤ x.op ∧ x.op ≤ 21) : x.sums = true := by rw [sums_eq, decide_eq_true h]; rfl
theorem sums_out {x : Ex} (h : ¬ (17 ≤ x.op ∧ x.op ≤ 21)) : x.sums = sumsL x.l := by rw [sums_eq, decide_eq_false h]; rfl
set_option maxHeartbeats 1000000 in
theorem sumsc_ex (n : Nat) : ∀ (x : Ex), SizeOf.sizeOf x < n → x.nodes ≤ 1000000 → ∀ (A : Option Addr) (k g : Nat) (w : World), ExsR (PRow w) A x.l → SumsAs w g →
    Gives Try.prog 203 #[exV x A k, .pointer (some ⟨g, 0, none⟩)] w (.bool x.sums) := by
  induction n with
  | zero => intro x hn; omega
  | succ n ih =>
    intro x hn hxn A k g w ra hs
    have hpart : ∀ y ∈ x.l, SizeOf.sizeOf y < n := fun y hy => by have := x.part_lt hy; omega
    have hpn : ∀ y ∈ x.l, y.nodes ≤ 1000000 := fun y hy => by have := nodes_part hy; omega
    have hll : x.l.length ≤ 1000000 := by have := nodes_len x; omega
    obtain ⟨b, hb⟩ : ∃ b, x.sums = b := ⟨_, rfl⟩
    have hin : 17 ≤ x.op → x.op ≤ 21 → b = true := fun h1 h2 => hb.symm.trans (sums_in ⟨h1, h2⟩)
    have hout : ¬ (17 ≤ x.op ∧ x.op ≤ 21) → b = sumsL x.l := fun h => hb.symm.trans (sums_out h)
    rw [hb]
    clear hb
    obtain ⟨op, tab, name, tt, cc, vk, vi, vs, l⟩ := x
    simp only [Ex.l, Ex.op] at ra hpart hpn hll hin hout
    have HC : Hid (∀ W, Grew w W → Gives Try.prog 204 #[.slice A l.length k, .func (.func 203) #[] #[.pointer (some ⟨g, 0, none⟩)]] W (.bool (sumsL l))) := Lib.hid fun W hW =>
      contains_sums g l A k l.length rfl hll W (fun a ha A k W' hW' ra => ih a (hpart a ha) (hpn a ha) A k g W' ra (Blok.grew hs (hW.trans hW'))) (ra.grew hW)
    have c1 : w.cell? ⟨g, 0, none⟩ = some (.func (.func 203) #[] #[.pointer (some ⟨g, 0, none⟩)]) := hs.cell 0
    have hgl : g < w.heap.size := hs.lt
    clear ra ih hpart hpn hn hs hxn
    generalize sumsL l = t at *
    unfold exV Gives
    simp only [Ex.op, Ex.tab, Ex.name, Ex.t, Ex.c, Ex.vk, Ex.vi, Ex.vs, Ex.l]
    by_cases h17 : 17 ≤ op
    · by_cases h21 : op ≤ 21
      · obtain rfl := hin h17 h21
        clear hin hout
        go_enter Try.func203, Try.ntmps203
        go_wp2
        go_ret
        exact ⟨rfl, by (show Grew _ _; repeat (first | exact Grew.refl _ | refine Grew.alloc ?_ _ | refine Grew.drew ?_ | refine Grew.more ?_ _))⟩
      · obtain rfl := hout (fun h => h21 h.2)
        clear hin hout
        go_enter Try.func203, Try.ntmps203
        go_wp2_with (first | (go_at_call 204; (with_reducible refine (HC.out _ ((Grew.refl w).alloc _)).grows.mono ?_); rintro e w2 ⟨rfl, hg2⟩; have HG2 := Lib.hid (((Grew.refl w).alloc _).trans hg2); clear hg2))
        go_ret
        exact ⟨rfl, HG2.out⟩
    · obtain rfl := hout (fun h => h17 h.1)
      clear hin hout
      go_enter Try.func203, Try.ntmps203
      go_wp2_with (first | (go_at_call 204; (with_reducible refine (HC.out _ ((Grew.refl w).alloc _)).grows.mono ?_); rintro e w2 ⟨rfl, hg2⟩; have HG2 := Lib.hid (((Grew.refl w).alloc _).trans hg2); clear hg2))
      go_ret
      exact ⟨rfl, HG2.out⟩
set_option maxHeartbeats 1000000 in
theorem sums_ex (x : Ex) (A : Option Addr) (k : Nat) (hx : x.nodes ≤ 1000000) (w : World) (ra : ExsR (PRow w) A x.l) : Gives Try.prog 178 #[exV x A k] w (.bool x.sums) := by
  have HC : Hid (∀ W g, Grew w W → SumsAs W g → Gives Try.prog 203 #[exV x A k, .pointer (some ⟨g, 0, none⟩)] W (.bool x.sums)) := Lib.hid fun W g hW h1 =>
    sumsc_ex _ x (Nat.lt_succ_self _) hx A k g W (ra.grew hW) h1
  clear ra hx
  generalize x.sums = n at *
  unfold exV at *
  unfold Gives
  go_enter Try.func178, Try.ntmps178
  go_wp2_with fail
  refine (HC.out _ _ (((Grew.refl w).alloc _).alloc _) (Blok.new _ _ _ _ (by simp))).grows.mono ?_
  rintro e w2 ⟨rfl, hg2⟩
  have HG2 := Lib.hid ((((Grew.refl w).alloc _).alloc _).trans hg2)
  clear hg2
  go_wp2
  go_ret
  exact ⟨rfl, HG2.out⟩
def levelI (op : Int) : Int :=
  if op = 11 then 1 else if op = 10 then 2 else if op = 12 then 3 else if (1 ≤ op ∧ op ≤ 6) ∨ op = 13 ∨ op = 14 then 4 else if op = 7 ∨ op = 8 then 5 else if op = 9 then 6 else 7
def argsI (op : Int) : Int := if 1 ≤ op ∧ op ≤ 11 then 2 else if (12 ≤ op ∧ op ≤ 14) ∨ (18 ≤ op ∧ op ≤ 21) then 1 else 0
set_option maxHeartbeats 2000000 in
theorem args_ex (op : Int) (w : World) : Gives Try.prog 206 #[.int .i64 op] w (.int .i64 (argsI op)) := by
  unfold Gives
  by_cases h : 1 ≤ op ∧ op ≤ 11
  · have e : argsI op = 2 := by unfold argsI; (repeat' split) <;> omega
    rw [e]
    obtain ⟨h1, h2⟩ := h
    go_enter Try.func206, Try.ntmps206
    go_wp2
    go_ret
    exact ⟨rfl, by (show Grew _ _; repeat (first | exact Grew.refl _ | refine Grew.alloc ?_ _ | refine Grew.drew ?_ | refine Grew.more ?_ _))⟩
  · by_cases h2 : (12 ≤ op ∧ op ≤ 14) ∨ (18 ≤ op ∧ op ≤ 21)
    · rcases (by omega : op = 12 ∨ op = 13 ∨ op = 14 ∨ op = 18 ∨ op = 19 ∨ op = 20 ∨ op = 21) with rfl | rfl | rfl | rfl | rfl | rfl | rfl
      all_goals
        clear h h2
        go_enter Try.func206, Try.ntmps206
        go_wp2
        go_ret
        exact ⟨rfl, by (show Grew _ _; repeat (first | exact Grew.refl _ | refine Grew.alloc ?_ _ | refine Grew.drew ?_ | refine Grew.more ?_ _))⟩
    · have e : argsI op = 0 := by unfold argsI; (repeat' split) <;> omega
      rw [e]
      have a1 : (op == 12) = false := by rw [beq_eq_false_iff_ne]; omega
      have a2 : (op == 13) = false := by rw [beq_eq_false_iff_ne]; omega
      have a3 : (op == 14) = false := by rw [beq_eq_false_iff_ne]; omega
      have a4 : (op == 18) = false := by rw [beq_eq_false_iff_ne]; omega
      have a5 : (op == 19) = false := by rw [beq_eq_false_iff_ne]; omega
      have a6 : (op == 20) = false := by rw [beq_eq_false_iff_ne]; omega
      have a7 : (op == 21) = false := by rw [beq_eq_false_iff_ne]; omega
      by_cases h1 : 1 ≤ op
      · have h3 : 11 < op := by omega
        clear h h2
        go_enter Try.func206, Try.ntmps206
        go_wp2
        go_ret
        exact ⟨rfl, by (show Grew _ _; repeat (first | exact Grew.refl _ | refine Grew.alloc ?_ _ | refine Grew.drew ?_ | refine Grew.more ?_ _))⟩
      · clear h h2
        go_enter Try.func206, Try.ntmps206
        go_wp2
        go_ret
        exact ⟨rfl, by (show Grew _ _; repeat (first | exact Grew.refl _ | refine Grew.alloc ?_ _ | refine Grew.drew ?_ | refine Grew.more ?_ _))⟩
set_option maxHeartbeats 2000000 in
theorem rargs_ex (op : Int) (w : World) : Gives Try.prog 91 #[.int .i64 op] w (.int .i64 (argsI op)) := by
  unfold Gives
  rcases (by omega : op < 1 ∨ (1 ≤ op ∧ op ≤ 11) ∨ (12 ≤ op ∧ op ≤ 14) ∨ (14 < op ∧ op < 18) ∨ (18 ≤ op ∧ op ≤ 21) ∨ 21 < op) with h | ⟨h, h'⟩ | ⟨h, h'⟩ | ⟨h, h'⟩ | ⟨h, h'⟩ | h
  · have e : argsI op = 0 := by unfold argsI; (repeat' split) <;> omega
    rw [e]
    have q1 : op < 12 := by omega
    have q2 : op < 18 := by omega
    go_enter Try.func91, Try.ntmps91
    go_wp2
    go_ret
    exact ⟨rfl, by (show Grew _ _; repeat (first | exact Grew.refl _ | refine Grew.alloc ?_ _ | refine Grew.drew ?_ | refine Grew.more ?_ _))⟩
  · have e : argsI op = 2 := by unfold argsI; (repeat' split) <;> omega
    rw [e]
    go_enter Try.func91, Try.ntmps91
    go_wp2
    go_ret
    exact ⟨rfl, by (show Grew _ _; repeat (first | exact Grew.refl _ | refine Grew.alloc ?_ _ | refine Grew.drew ?_ | refine Grew.more ?_ _))⟩
  · have e : argsI op = 1 := by unfold argsI; (repeat' split) <;> omega
    rw [e]
    have q1 : 1 ≤ op := by omega
    have q2 : 11 < op := by omega
    go_enter Try.func91, Try.ntmps91
    go_wp2
    go_ret
    exact ⟨rfl, by (show Grew _ _; repeat (first | exact Grew.refl _ | refine Grew.alloc ?_ _ | refine Grew.drew ?_ | refine Grew.more ?_ _))⟩
  · have e : argsI op = 0 := by unfold argsI; (repeat' split) <;> omega
    rw [e]
    have q1 : 1 ≤ op := by omega
    have q2 : 11 < op := by omega
    have q3 : 12 ≤ op := by omega
    go_enter Try.func91, Try.ntmps91
    go_wp2
    go_ret
    exact ⟨rfl, by (show Grew _ _; repeat (first | exact Grew.refl _ | refine Grew.alloc ?_ _ | refine Grew.drew ?_ | refine Grew.more ?_ _))⟩
  · have e : argsI op = 1 := by unfold argsI; (repeat' split) <;> omega
    rw [e]
    have q1 : 1 ≤ op := by omega
    have q2 : 11 < op := by omega
    have q3 : 12 ≤ op := by omega
    have q4 : 14 < op := by omega
    go_enter Try.func91, Try.ntmps91
    go_wp2
    go_ret
    exact ⟨rfl, by (show Grew _ _; repeat (first | exact Grew.refl _ | refine Grew.alloc ?_ _ | refine Grew.drew ?_ | refine Grew.more ?_ _))⟩
  · have e : argsI op = 0 := by unfold argsI; (repeat' split) <;> omega
    rw [e]
    have q1 : 1 ≤ op := by omega
    have q2 : 11 < op := by omega
    have q3 : 12 ≤ op := by omega
    have q4 : 14 < op := by omega
    have q5 : 18 ≤ op := by omega
    go_enter Try.func91, Try.ntmps91
    go_wp2
    go_ret
    exact ⟨rfl, by (show Grew _ _; repeat (first | exact Grew.refl _ | refine Grew.alloc ?_ _ | refine Grew.drew ?_ | refine Grew.more ?_ _))⟩
end Go.Proofs.Ytddambfniaiogaa
