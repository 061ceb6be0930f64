/- Layer 8: expressions that are the same. Condition: expressions that lie in memory that is there. -/
import Derived.Test.YtchogpdfdpbpfaaEx
import Derived.Test.YtchogpdfdpbpfaaHeld
import Derived.Test.YtchogpdfdpbpfaaHead
import Derived.StillTailTactics
import Derived.Deep.DrawnRows
import Derived.Deep.DeepCutAuto
import Derived.Outline
import Derived.IntWalk
import Derived.Lib.Bytealg
namespace Go.Proofs.Ytchogpdfdpbpfaa
open Go.RowKit
attribute [local go_sem] more_cell more_frozen more_more more_setCell more_of_drew more_of_drewN lt_more le_more past_cell past_cell2 past_frozen past_frozen2 past_setCell past_setCell2 mid_cell mid_frozen mid_setCell
attribute [local go_sem ↓] Go.wp_at_zero Go.wp_at_succ

theorem not_true {p : Prop} {t : Bool} (h : t = true ↔ p) (hn : ¬ p) : t = false := by
  cases t
  · rfl
  · exact absurd (h.1 rfl) hn
theorem is_true {p : Prop} {t : Bool} (h : t = true ↔ p) (hn : p) : t = true := h.2 hn
theorem some_bool (p : Prop) : ∃ t : Bool, (t = true ↔ p) := by
  by_cases h : p
  · exact ⟨true, by simp [h]⟩
  · exact ⟨false, by simp [h]⟩
theorem take_same {α : Type} {l m : List α} {j : Nat} (h : l.take j = m.take j) (h1 : j < l.length) (h2 : j < m.length) (he : l[j] = m[j]) : l.take (j + 1) = m.take (j + 1) := by
  rw [List.take_succ_eq_append_getElem h1, List.take_succ_eq_append_getElem h2, h, he]
theorem bytes_ext {a b : ByteArray} (h : a.toList = b.toList) : a = b := by
  apply ByteArray.ext
  apply Array.ext'
  rw [ByteArray.toList_eq] at h
  rw [ByteArray.toList_eq] at h
  exact h
def RSameAt (w : World) (cs cs' : Array Value) (l m : List Ex) (i : Value) (wr : World) : Prop :=
  ∃ j : Nat, j ≤ l.length ∧ i = .int .i64 j ∧ Grew w wr ∧ Blok wr w.heap.size 27 cs ∧ Blok wr (w.heap.size + 1) 27 cs' ∧ l.take j = m.take j
/-- Are all but the parts the same? -/
def headE (a b : Ex) : Prop := a.op = b.op ∧ a.tab = b.tab ∧ a.name = b.name ∧ a.t = b.t ∧ a.c = b.c ∧ a.vk = b.vk ∧ a.vi = b.vi ∧ a.vs = b.vs
theorem same_head {a b : Ex} (h : headE a b) : a = b ↔ a.l = b.l := ⟨fun e => by rw [e], fun e => Ex.ext' h.1 h.2.1 h.2.2.1 h.2.2.2.1 h.2.2.2.2.1 h.2.2.2.2.2.1 h.2.2.2.2.2.2.1 h.2.2.2.2.2.2.2 e⟩
theorem head_same {a b : Ex} (h : a = b) : headE a b := by subst h; exact ⟨rfl, rfl, rfl, rfl, rfl, rfl, rfl, rfl⟩
set_option maxHeartbeats 1000000 in
theorem rsame_head (a b : Ex) (A B : Option Addr) (k j : Nat) (h : ¬ headE a b) (w : World) : Gives Try.prog 48 #[exV a A k, exV b B j] w (.bool false) := by
  obtain ⟨op, tab, name, tt, c, vk, vi, vs, l⟩ := a
  obtain ⟨op', tab', name', tt', c', vk', vi', vs', l'⟩ := b
  have HH : Hid (op = op' → tab.toList = tab'.toList → name.toList = name'.toList → tt = tt' → c = c' → vk = vk' → vi = vi' → vs.toList = vs'.toList → False) := Lib.hid fun h0 h1 h2 h3 h4 h5 h6 h7 => h ⟨h0, bytes_ext h1, bytes_ext h2, h3, h4, h5, h6, bytes_ext h7⟩
  clear h
  unfold Gives exV
  simp only [Ex.op, Ex.tab, Ex.name, Ex.t, Ex.c, Ex.vk, Ex.vi, Ex.vs, Ex.l]
  go_enter Try.func48, Try.ntmps48
  go_upto_region 3 with fail
  all_goals first
    | (go_ret; exact ⟨rfl, by (show Grew _ _; repeat (first | exact Grew.refl _ | refine Grew.alloc ?_ _ | refine Grew.drew ?_ | refine Grew.more ?_ _))⟩)
    | (exfalso; refine HH.out ?_ ?_ ?_ ?_ ?_ ?_ ?_ ?_ <;> assumption)
set_option maxHeartbeats 1000000 in
theorem rsame_len (op tt c vk vi : Int) (tab name vs : ByteArray) (l l' : List Ex) (A B : Option Addr) (k j : Nat) (h : l.length ≠ l'.length) (w : World) :
    Gives Try.prog 48 #[exV (.mk op tab name tt c vk vi vs l) A k, exV (.mk op tab name tt c vk vi vs l') B j] w (.bool false) := by
  have e1 : ((l.length : Int) != (l'.length : Int)) = true := by rw [bne_iff_ne]; omega
  clear h
  unfold Gives exV
  simp only [Ex.op, Ex.tab, Ex.name, Ex.t, Ex.c, Ex.vk, Ex.vi, Ex.vs, Ex.l]
  go_enter Try.func48, Try.ntmps48
  go_wp2
  go_ret
  exact ⟨rfl, by (show Grew _ _; repeat (first | exact Grew.refl _ | refine Grew.alloc ?_ _ | refine Grew.drew ?_ | refine Grew.more ?_ _))⟩
set_option maxHeartbeats 2000000 in
set_option maxRecDepth 100000 in
theorem rsame_list (op tt c vk vi : Int) (tab name vs : ByteArray) (l l' : List Ex) (A B : Option Addr) (k j m : Nat) (hm : l.length = m) (hm' : l'.length = m) (hs : m ≤ 1000000) (t : Bool) (ht : t = true ↔ l = l')
    (ih : ∀ (a b : Ex), a ∈ l → ∀ (A B : Option Addr) (k j : Nat) (t : Bool), (t = true ↔ a = b) → ∀ w, ExsR (PRow w) A a.l → ExsR (PRow w) B b.l → Gives Try.prog 48 #[exV a A k, exV b B j] w (.bool t))
    (w : World) (ra : ExsR (PRow w) A l) (rb : ExsR (PRow w) B l') :
    Gives Try.prog 48 #[.agg #[.int .i64 op, .string tab, .string name, .int .i64 tt, .int .i64 c, .int .i64 vk, .int .i64 vi, .string vs, .slice A m k], .agg #[.int .i64 op, .string tab, .string name, .int .i64 tt, .int .i64 c, .int .i64 vk, .int .i64 vi, .string vs, .slice B m j]] w (.bool t) := by
  have RA := Lib.hid ra
  have RB := Lib.hid rb
  have HT := Lib.hid ht
  have HI := Lib.hid ih
  have HM := Lib.hid hm
  have HM' := Lib.hid hm'
  have e0 : ((m : Int) != (m : Int)) = false := by simp
  clear ra rb ht ih hm hm'
  unfold Gives
  go_enter Try.func48, Try.ntmps48
  go_upto_region 3 with fail
  clear e0
  go_wp2
  go_loopw [5] (fun i wr => RSameAt w #[.int .i64 op, .string tab, .string name, .int .i64 tt, .int .i64 c, .int .i64 vk, .int .i64 vi, .string vs, .slice A m k] #[.int .i64 op, .string tab, .string name, .int .i64 tt, .int .i64 c, .int .i64 vk, .int .i64 vi, .string vs, .slice B m j] l l' i wr) (fun i _ => m - (intOf i).toNat)
  case atStart => exact ⟨0, Nat.zero_le _, rfl, by (show Grew _ _; repeat (first | exact Grew.refl _ | refine Grew.alloc ?_ _ | refine Grew.drew ?_ | refine Grew.more ?_ _)), (Blok.new _ _ _ _ rfl).alloc _, Blok.new _ _ _ _ (by simp), rfl⟩
  case round =>
    obtain ⟨i, hi, rfl, hg, hb, hb', hk⟩ := hrel
    rw [HM.out] at hi
    have HG := Lib.hid hg
    have HB := Lib.hid hb
    have HB' := Lib.hid hb'
    have HK := Lib.hid hk
    have c8 := hb.cell 8
    have c8' := hb'.cell 8
    have hlt0 := hb.lt
    have hlt1 := hb'.lt
    simp at c8 c8'
    clear hg hb hb' hk
    by_cases h : i < m
    · have h1 : i < l.length := by rw [HM.out]; exact h
      have h2 : i < l'.length := by rw [HM'.out]; exact h
      obtain ⟨ba, oa, PA, ka, rfl, hpa, h9⟩ := exsR_nine RA.out h1
      obtain ⟨bb, ob, PB, kb, rfl, hpb, h9'⟩ := exsR_nine RB.out h2
      obtain ⟨t2, ht2⟩ := some_bool (l[i] = l'[i])
      have HC : Hid (∀ W, Grew w W → Gives Try.prog 48 #[exV l[i] PA ka, exV l'[i] PB kb] W (.bool t2)) := Lib.hid fun W hW => HI.out _ _ (List.getElem_mem h1) _ _ _ _ t2 ht2 W (hpa.grew hW) (hpb.grew hW)
      have HN : Hid (t2 = true → l.take (i + 1) = l'.take (i + 1)) := Lib.hid fun q => take_same HK.out h1 h2 (ht2.1 q)
      have HF : Hid (t2 = false → t = false) := Lib.hid fun q => not_true HT.out (by
        intro e
        subst e
        have := ht2.2 rfl
        rw [q] at this
        cases this)
      obtain ⟨p0, a0, a1, a2, a3, a4, a5, a6, a7, a8⟩ := h9.grew HG.out
      obtain ⟨p1, d0, d1, d2, d3, d4, d5, d6, d7, d8⟩ := h9'.grew HG.out
      clear h9 h9' hpa hpb ht2 HI HT HK
      generalize l[i] = x at *
      generalize l'[i] = y at *
      clear h1 h2
      unfold exV at HC
      go_wp2
      refine wp_region_more (by kernel_rfl) (by kernel_rfl) ?_
      repeat (go_big_quiet_step (((go_at_call 48; exact (HC.out _ (HG.out.more _)).within))))
      refine wpQuiet_nil ?_
      rintro _ ⟨z, rfl⟩
      cases t2
      · obtain rfl := HF.out rfl
        go_wp2
        go_ret
        exact ⟨rfl, (HG.out.more _)⟩
      · go_wp2
        exact ⟨⟨i + 1, by rw [HM.out]; omega, by go_num, HG.out.more _, HB.out.more _, HB'.out.more _, HN.out rfl⟩, by simp only [intOf]; omega⟩
    · obtain rfl : i = m := by omega
      have ht : t = true := HT.out.2 (by
        have := HK.out
        rw [List.take_of_length_le (Nat.le_of_eq HM.out), List.take_of_length_le (Nat.le_of_eq HM'.out)] at this
        exact this)
      subst ht
      go_wp2
      go_ret
      exact ⟨rfl, HG.out⟩
theorem rsame_ex (n : Nat) (hn : n ≤ 1000000) : ∀ (a b : Ex), a.nodes ≤ n → ∀ (A B : Option Addr) (k j : Nat) (t : Bool), (t = true ↔ a = b) → ∀ w, ExsR (PRow w) A a.l → ExsR (PRow w) B b.l →
    Gives Try.prog 48 #[exV a A k, exV b B j] w (.bool t) := by
  induction n with
  | zero => intro a b h; have := nodes_pos a; omega
  | succ n ih =>
    intro a b ha A B k j t ht w ra rb
    by_cases hh : headE a b
    · rw [same_head hh] at ht
      obtain ⟨op, tab, name, tt, c, vk, vi, vs, l⟩ := a
      obtain ⟨op', tab', name', tt', c', vk', vi', vs', l'⟩ := b
      obtain ⟨h0, h1, h2, h3, h4, h5, h6, h7⟩ := hh
      simp only [Ex.op, Ex.tab, Ex.name, Ex.t, Ex.c, Ex.vk, Ex.vi, Ex.vs] at h0 h1 h2 h3 h4 h5 h6 h7
      subst h0 h1 h2 h3 h4 h5 h6 h7
      simp only [Ex.l] at ht ra rb
      by_cases hl : l.length = l'.length
      · have h := nodes_len (.mk op tab name tt c vk vi vs l)
        simp only [Ex.l] at h
        unfold exV
        simp only [Ex.op, Ex.tab, Ex.name, Ex.t, Ex.c, Ex.vk, Ex.vi, Ex.vs, Ex.l]
        rw [← hl]
        exact rsame_list op tt c vk vi tab name vs l l' A B k j l.length rfl hl.symm (by omega) t ht (fun a b ha' A B k j t ht w ra rb => ih (by omega) a b (by have := nodes_part (x := .mk op tab name tt c vk vi vs l) ha'; omega) A B k j t ht w ra rb) w ra rb
      · have hf : t = false := not_true ht (fun e => hl (by rw [e]))
        subst hf
        exact rsame_len op tt c vk vi tab name vs l l' A B k j hl w
    · have hf : t = false := not_true ht (fun e => hh (head_same e))
      subst hf
      exact rsame_head a b A B k j hh w
end Go.Proofs.Ytchogpdfdpbpfaa
