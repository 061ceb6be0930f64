/- Layer 8: sources that are the same, one by one. Condition: expressions that lie in memory that is there. -/
import Derived.Test.YtcokhgomibimcaaQuery2
namespace Go.Proofs.Ytcokhgomibimcaa
open Go.RowKit
attribute [local go_sem] more_cell more_frozen more_more more_setCell more_of_drew more_of_drewN lt_more le_more past_cell past_cell2 past_frozen past_frozen2 past_setCell past_setCell2 mid_cell mid_frozen mid_setCell
attribute [local go_sem ↓] Go.wp_at_zero Go.wp_at_succ
def EqFr (w : World) (l m : List Fr) (i : Value) (wr : World) : Prop := ∃ j : Nat, j ≤ l.length ∧ i = .int .i64 j ∧ Grew w wr ∧ l.take j = m.take j
theorem frsR_all {w : World} {A : Option Addr} {l : List Fr} (h : FrsR (PRow w) A l) {i : Nat} (hi : i < l.length) :
    ∃ b o B k, A = some ⟨b, o, none⟩ ∧ ExsR (PRow w) B l[i].on.l ∧ b < w.heap.size ∧ ∀ j u, (Value.int .i64 l[i].join :: .string l[i].table :: .string l[i].short :: exC l[i].on B k)[j]? = some u → w.cell? ⟨b, o + i * 12 + j, none⟩ = some u := by
  obtain ⟨css, h1, h2⟩ := h
  obtain ⟨b, o, cs, hA, hb, hr, _, hc⟩ := h1.at_ h2 (by decide) hi
  obtain ⟨B, k, rfl, hp⟩ := hr
  exact ⟨b, o, B, k, hA, hp, hb, fun j u hu => by rw [Nat.add_assoc]; exact hc j u hu⟩
set_option maxHeartbeats 2000000 in
set_option maxRecDepth 100000 in
theorem eqf_from (l l' : List Fr) (A B : Option Addr) (k j m m' : Nat) (hm : l.length = m) (hm' : l'.length = m') (hs : m ≤ 1000000) (t : Bool) (ht : t = true ↔ l = l') (w : World)
    (ih : ∀ (a b : Fr), a ∈ l → ∀ (A B : Option Addr) (k j : Nat) (t : Bool), (t = true ↔ a = b) → ∀ W, Grew w W → ExsR (PRow W) A a.on.l → ExsR (PRow W) B b.on.l → Gives Try.prog 118 #[frV a A k, frV b B j] W (.bool t))
    (ra : FrsR (PRow w) A l) (rb : FrsR (PRow w) B l') :
    Gives Try.prog 117 #[.slice A m k, .slice B m' j, .func (.func 118) #[] #[]] w (.bool t) := by
  have RA := Lib.hid ra
  have RB := Lib.hid rb
  have HT := Lib.hid ht
  have HI := Lib.hid ih
  have HM := Lib.hid hm
  have HM' := Lib.hid hm'
  clear ra rb ht ih hm hm'
  unfold Gives
  by_cases hmm : m = m'
  · subst hmm
    have e0 : ((m : Int) != (m : Int)) = false := by simp
    go_enter Try.func117, Try.ntmps117
    go_upto_region 3 with fail
    clear e0
    go_wp2
    go_loopw [17] (fun i wr => EqFr w l l' i wr) (fun i _ => m - (intOf i).toNat)
    case atStart => exact ⟨0, Nat.zero_le _, rfl, by (show Grew _ _; repeat (first | exact Grew.refl _ | refine Grew.alloc ?_ _ | refine Grew.drew ?_ | refine Grew.more ?_ _)), rfl⟩
    case round =>
      obtain ⟨i, hi, rfl, hg, hk⟩ := hrel
      rw [HM.out] at hi
      have HG := Lib.hid hg
      have HK := Lib.hid hk
      clear hg hk
      by_cases h : i < m
      · have h1 : i < l.length := by rw [HM.out]; exact h
        have h2 : i < l'.length := by rw [HM'.out]; exact h
        obtain ⟨ba, oa, PA, ka, rfl, hpa, p0, hc⟩ := frsR_all (RA.out.grew HG.out) h1
        obtain ⟨bb, ob, PB, kb, rfl, hpb, p1, hd⟩ := frsR_all (RB.out.grew HG.out) h2
        obtain ⟨t2, ht2⟩ := some_bool (l[i] = l'[i])
        have HC : Hid (∀ W, Grew wr W → Gives Try.prog 118 #[frV l[i] PA ka, frV l'[i] PB kb] W (.bool t2)) := Lib.hid fun W hW => HI.out _ _ (List.getElem_mem h1) _ _ _ _ t2 ht2 W (HG.out.trans hW) (hpa.grew hW) (hpb.grew hW)
        have HN : Hid (t2 = true → l.take (i + 1) = l'.take (i + 1)) := Lib.hid fun q => take_same HK.out h1 h2 (ht2.1 q)
        have HF : Hid (t2 = false → t = false) := Lib.hid fun q => not_true HT.out (by
          intro e
          subst e
          have := ht2.2 rfl
          rw [q] at this
          cases this)
        have a0 : wr.cell? ⟨ba, oa + i * 12, none⟩ = _ := hc 0 _ rfl
        have a1 := hc 1 _ rfl
        have a2 := hc 2 _ rfl
        have a3 := hc 3 _ rfl
        have a4 := hc 4 _ rfl
        have a5 := hc 5 _ rfl
        have a6 := hc 6 _ rfl
        have a7 := hc 7 _ rfl
        have a8 := hc 8 _ rfl
        have a9 := hc 9 _ rfl
        have a10 := hc 10 _ rfl
        have a11 := hc 11 _ rfl
        have d0 : wr.cell? ⟨bb, ob + i * 12, none⟩ = _ := hd 0 _ rfl
        have d1 := hd 1 _ rfl
        have d2 := hd 2 _ rfl
        have d3 := hd 3 _ rfl
        have d4 := hd 4 _ rfl
        have d5 := hd 5 _ rfl
        have d6 := hd 6 _ rfl
        have d7 := hd 7 _ rfl
        have d8 := hd 8 _ rfl
        have d9 := hd 9 _ rfl
        have d10 := hd 10 _ rfl
        have d11 := hd 11 _ rfl
        clear hc hd hpa hpb ht2 HI HT HK
        generalize l[i] = x at *
        generalize l'[i] = y at *
        clear h1 h2
        unfold frV at HC
        go_upto_region 8 with (go_at_call 118; (with_reducible refine (HC.out _ (((Grew.refl _).alloc _).alloc _)).grows.mono ?_); rintro e w2 ⟨rfl, hg2⟩; have HG2 := Lib.hid (((HG.out.alloc _).alloc _).trans hg2); clear hg2)
        · have e2 : t2 = false := by first | assumption | simp_all
          obtain rfl := HF.out e2
          go_wp2
          go_ret
          exact ⟨rfl, HG2.out⟩
        · have e2 : t2 = true := by first | assumption | simp_all
          go_wp2
          exact ⟨⟨i + 1, by rw [HM.out]; omega, by go_num, HG2.out, HN.out e2⟩, by simp only [intOf]; omega⟩
      · obtain rfl : i = m := by omega
        have ht : t = true := HT.out.2 (by
          have := HK.out
          rw [List.take_of_length_le (Nat.le_of_eq HM.out), List.take_of_length_le (Nat.le_of_eq HM'.out)] at this
          exact this)
        subst ht
        go_wp2
        go_ret
        exact ⟨rfl, HG.out⟩
  · have e0 : ((m : Int) != (m' : Int)) = true := by rw [bne_iff_ne]; omega
    have hf : t = false := not_true HT.out (fun e => hmm (by rw [← HM.out, ← HM'.out, e]))
    subst hf
    go_enter Try.func117, Try.ntmps117
    go_wp2
    go_ret
    exact ⟨rfl, by (show Grew _ _; repeat (first | exact Grew.refl _ | refine Grew.alloc ?_ _ | refine Grew.drew ?_ | refine Grew.more ?_ _))⟩
end Go.Proofs.Ytcokhgomibimcaa
