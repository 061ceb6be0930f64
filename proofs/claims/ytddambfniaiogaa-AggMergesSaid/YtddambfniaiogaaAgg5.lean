/- Layer 14: a sum, by the document. Condition: no more than a hundred thousand values. -/
import Derived.Test.YtddambfniaiogaaAgg4
import Derived.Test.YtddambfniaiogaaMix
import Derived.Test.YtddambfniaiogaaApp2
namespace Go.Proofs.Ytddambfniaiogaa
open Go.RowKit
attribute [local go_sem] more_cell more_frozen more_more more_setCell more_of_drew more_of_drewN lt_more le_more past_cell past_cell2 past_frozen past_frozen2 past_setCell past_setCell2 mid_cell mid_frozen mid_setCell
attribute [local go_sem ↓] Go.wp_at_zero Go.wp_at_succ

theorem infoI14 : (Try.prog.info? 3).map (fun i => (i.zero, i.size, i.bytes)) = some (some (.int .i64 0), 1, 8) := by kernel_rfl
def sumP (m : List Vl) : Vl × Int :=
  if (m.any fun v => !(v.k == 1)) = true then (zV, 3) else if fits (sumL (m.map Vl.i)) = true then (if m.length = 0 then (zV, 0) else (⟨1, sumL (m.map Vl.i), ⟨#[]⟩⟩, 0)) else (zV, 5)
theorem sumP_bad {m : List Vl} {j : Nat} (h : j < m.length) (hk : ¬ m[j].k = 1) : sumP m = (zV, 3) := by
  unfold sumP
  rw [if_pos]
  rw [List.any_eq_true]
  exact ⟨m[j], List.getElem_mem h, by simpa using hk⟩
theorem sumP_good {m : List Vl} (h : ∀ x ∈ m, x.k = 1) : sumP m = if fits (sumL (m.map Vl.i)) = true then (if m.length = 0 then (zV, 0) else (⟨1, sumL (m.map Vl.i), ⟨#[]⟩⟩, 0)) else (zV, 5) := by
  unfold sumP
  rw [if_neg]
  rw [Bool.not_eq_true, List.any_eq_false]
  intro x hx
  simp [h x hx]
def Sum14At (u : World) (l : List Vl) (v i : Value) (wr : World) : Prop :=
  ∃ (j : Nat) (A : Option Addr) (c : Nat), j ≤ l.length ∧ i = .int .i64 j ∧ v = .slice A j c ∧ wr.ownsRow u.heap.size 3 1 (.slice A j c) j (((l.take j).map Vl.i).map (Value.int .i64)) ∧ Grew u wr ∧ ∀ x ∈ l.take j, x.k = 1
theorem ints_snoc {l : List Vl} {j : Nat} (h : j < l.length) : ((l.take j).map Vl.i).map (Value.int .i64) ++ [.int .i64 l[j].i] = ((l.take (j + 1)).map Vl.i).map (Value.int .i64) := by
  rw [List.take_succ_eq_append_getElem h, List.map_append, List.map_append]
  rfl
theorem rsum_is14 (l : List Int) (A : Option Addr) (n c : Nat) (hn : l.length = n) (hl : n ≤ 1000000) (hi : ∀ z ∈ l, isI z) (w : World) (hr : Row w A (l.map (Value.int .i64))) :
    Gives Try.prog 161 #[.slice A n c] w (.agg #[.int .i64 (hi32 (sumL l)), .int .i64 (lo32 (sumL l))]) := by
  subst hn
  exact rsum_any l A c hl hi w hr
set_option maxHeartbeats 4000000 in
set_option maxRecDepth 100000 in
theorem sum14_any (l : List Vl) (hl : l.length ≤ 100000) (hv : ∀ v ∈ l, VlOk v) (A : Option Addr) (k : Nat) (w : World) (ra : VlsR (PRow w) A l) :
    Gives Try.prog 103 #[.slice A l.length k] w (.tuple #[vlV (sumP l).1, .int .i64 (sumP l).2]) := by
  have RA := Lib.hid ra
  have HI : Hid (∀ z ∈ l.map Vl.i, isI z) := Lib.hid fun z hz => by
    obtain ⟨v, hvv, rfl⟩ := List.mem_map.1 hz
    exact isI_of_wf (hv v hvv).2.1
  have HBad : Hid (∀ j (h : j < l.length), ¬ l[j].k = 1 → sumP l = (zV, 3)) := Lib.hid fun j h hk => sumP_bad h hk
  have HGood := Lib.hid (sumP_good (m := l))
  obtain ⟨r, hr⟩ : ∃ r, sumP l = r := ⟨_, rfl⟩
  rw [hr] at HBad HGood ⊢
  clear hr ra hv
  obtain ⟨W0, hW0⟩ : ∃ W0, W0 = w.alloc (.cells #[.int .i64 0, .int .i64 0, .string ⟨#[]⟩] 23) := ⟨_, rfl⟩
  have HG0 : Hid (Grew w W0) := Lib.hid (by rw [hW0]; exact (Grew.refl w).alloc _)
  have HB0 : Hid (Blok W0 w.heap.size 23 #[.int .i64 0, .int .i64 0, .string ⟨#[]⟩]) := Lib.hid (by rw [hW0]; exact Blok.new _ _ _ _ rfl)
  have HLE : Hid (w.heap.size ≤ w.heap.size) := Lib.hid (Nat.le_refl _)
  unfold Gives
  go_enter Try.func103, Try.ntmps103
  go_upto_region 1 with fail
  rw [← hW0]
  clear hW0
  generalize hgr : w.heap.size = gr at *
  have HGR := Lib.hid hgr
  clear hgr
  go_wp2
  go_loopw [4, 5] (fun v i wr => Sum14At W0 l v i wr) (fun _ i _ => l.length - (intOf i).toNat)
  case atStart => exact ⟨0, none, 0, Nat.zero_le _, rfl, rfl, own_none _ _ _ _, Grew.refl _, by simp⟩
  case round =>
    obtain ⟨j, B, cB, hj, rfl, rfl, ho, hg, hk⟩ := hrel
    have HO := Lib.hid ho
    have HG := Lib.hid hg
    have HK := Lib.hid hk
    clear ho hg hk
    by_cases h : j < l.length
    · obtain ⟨b, o, rfl, hlb, q0, q1, q2⟩ := vlsR_at (RA.out.grew (HG0.out.trans HG.out)) h
      have HBj := Lib.hid (HBad.out j h)
      have HSn := Lib.hid (ints_snoc h)
      have HTk := Lib.hid (fun hx => take_all (P := fun x : Vl => x.k = 1) HK.out h hx)
      generalize ((l.take j).map Vl.i).map (Value.int .i64) = M at *
      generalize l[j] = x at *
      by_cases hx : x.k = 1
      · have hx1 : (x.k == 1) = true := by simpa using hx
        have HTx := Lib.hid (HTk.out hx)
        clear HTk HBj
        go_wp2_with (at_builtin; refine wpList_app rfl (.tmp 21) (.tmp 27) 68 3 rfl W0 (.int .i64 0) 8 Try.underlying68 infoI14 rfl (by decide) _ _ _ rfl (own_alloc HO.out _) _ 1 1 [.int .i64 x.i] rfl rfl (row_one _ _ _ _ rfl) (by simp [Value.oneCell']) (by omega) (HG.out.alloc _) ?_; intro A3 c3 w3 ho3 _ hg3 _ _; have HF : Hid (Sum14At W0 l (.slice A3 (j + 1) c3) (.int .i64 ((j : Int) + 1)) w3) := Lib.hid ⟨j + 1, A3, c3, by omega, by go_num, rfl, by rw [← HSn.out]; exact ho3, hg3, HTx.out⟩; clear ho3 hg3)
        exact ⟨HF.out, by simp only [intOf]; omega⟩
      · have hx1 : (x.k == 1) = false := by simpa using hx
        obtain rfl := HBj.out hx
        clear HTk HBad HGood HBj hx
        obtain ⟨p1, c0, c1, c2, d0, d1, d2⟩ := val_in (HB0.out.grew HG.out)
        go_wp2
        have hb := val_set (HB0.out.grew HG.out) (.int .i64 0) (.int .i64 0) (.string ⟨#[]⟩)
        obtain ⟨_, r0, r1, r2, _, _, _⟩ := val_in hb
        exact bodyPost_ret (v := .tuple #[.agg #[.int .i64 0, .int .i64 0, .string ⟨#[]⟩], .int .i64 3]) (by simp [results, Try.results103, go_sem, r0, r1, r2]) rfl ⟨rfl, grew_set3 (HG0.out.trans HG.out) (by rw [HGR.out]; exact Nat.le_refl _) _ _ _⟩
    · obtain rfl : j = l.length := by omega
      rw [List.take_length] at HO HK
      have HRR := Lib.hid (HGood.out HK.out)
      clear HGood HBad HK
      have HS : Hid (∀ W, Grew wr W → Gives Try.prog 161 #[.slice B l.length cB] W (.agg #[.int .i64 (hi32 (sumL (l.map Vl.i))), .int .i64 (lo32 (sumL (l.map Vl.i)))])) := Lib.hid fun W hW => rsum_is14 (l.map Vl.i) B l.length cB (by simp) (by omega) HI.out W (Row.grew (own_rowI (l := l.map Vl.i) HO.out) hW)
      have HTo : Hid (∀ W, Gives Try.prog 160 #[.agg #[.int .i64 (hi32 (sumL (l.map Vl.i))), .int .i64 (lo32 (sumL (l.map Vl.i)))]] W (.tuple #[.int .i64 (fitV (sumL (l.map Vl.i))), .bool (fits (sumL (l.map Vl.i)))])) := Lib.hid fun W => rtotal_any _ W
      clear HI HO
      unfold fitV at HTo
      generalize sumL (l.map Vl.i) = S at *
      generalize hi32 S = s1 at *
      generalize lo32 S = s2 at *
      generalize hn : l.length = n at *
      clear hn RA
      go_wp2_with fail
      refine (HS.out _ (Grew.refl _)).grows.mono ?_
      rintro e w2 ⟨rfl, hg2⟩
      have HG2 := Lib.hid ((HG0.out.trans HG.out).trans hg2)
      have HB2 := Lib.hid ((HB0.out.grew HG.out).grew hg2)
      clear hg2 HS HG HB0 HG0
      cases hf : fits S
      all_goals rw [hf] at HTo HRR
      · simp only [Bool.false_eq_true, if_false] at HTo HRR
        obtain rfl := HRR.out
        go_wp2_with fail
        refine (HTo.out _).grows.mono ?_
        rintro e w3 ⟨rfl, hg3⟩
        have HG3 := Lib.hid (HG2.out.trans hg3)
        have HB3 := Lib.hid (HB2.out.grew hg3)
        clear hg3 HTo HG2 HB2
        obtain ⟨p1, c0, c1, c2, d0, d1, d2⟩ := val_in HB3.out
        go_wp2
        have hb := val_set HB3.out (.int .i64 0) (.int .i64 0) (.string ⟨#[]⟩)
        obtain ⟨_, r0, r1, r2, _, _, _⟩ := val_in hb
        exact bodyPost_ret (v := .tuple #[.agg #[.int .i64 0, .int .i64 0, .string ⟨#[]⟩], .int .i64 5]) (by simp [results, Try.results103, go_sem, r0, r1, r2]) rfl ⟨rfl, grew_set3 HG3.out (by rw [HGR.out]; exact Nat.le_refl _) _ _ _⟩
      · simp only [if_true] at HTo HRR
        by_cases h0 : n = 0
        · rw [if_pos h0] at HRR
          obtain rfl := HRR.out
          subst h0
          go_wp2_with fail
          refine (HTo.out _).grows.mono ?_
          rintro e w3 ⟨rfl, hg3⟩
          have HG3 := Lib.hid (HG2.out.trans hg3)
          have HB3 := Lib.hid (HB2.out.grew hg3)
          clear hg3 HTo HG2 HB2
          obtain ⟨p1, c0, c1, c2, d0, d1, d2⟩ := val_in HB3.out
          go_wp2
          have hb := val_set HB3.out (.int .i64 0) (.int .i64 0) (.string ⟨#[]⟩)
          obtain ⟨_, r0, r1, r2, _, _, _⟩ := val_in hb
          exact bodyPost_ret (v := .tuple #[.agg #[.int .i64 0, .int .i64 0, .string ⟨#[]⟩], .int .i64 0]) (by simp [results, Try.results103, go_sem, r0, r1, r2]) rfl ⟨rfl, grew_set3 HG3.out (by rw [HGR.out]; exact Nat.le_refl _) _ _ _⟩
        · rw [if_neg h0] at HRR
          obtain rfl := HRR.out
          have h0' : ((n : Int) == 0) = false := by simpa using h0
          clear h0
          go_wp2_with fail
          refine (HTo.out _).grows.mono ?_
          rintro e w3 ⟨rfl, hg3⟩
          have HG3 := Lib.hid (HG2.out.trans hg3)
          have HB3 := Lib.hid (HB2.out.grew hg3)
          clear hg3 HTo HG2 HB2
          obtain ⟨p1, c0, c1, c2, d0, d1, d2⟩ := val_in HB3.out
          go_wp2
          have hb := val_set HB3.out (.int .i64 1) (.int .i64 S) (.string ⟨#[]⟩)
          obtain ⟨_, r0, r1, r2, _, _, _⟩ := val_in hb
          exact bodyPost_ret (v := .tuple #[.agg #[.int .i64 1, .int .i64 S, .string ⟨#[]⟩], .int .i64 0]) (by simp [results, Try.results103, go_sem, r0, r1, r2]) rfl ⟨rfl, grew_set3 HG3.out (by rw [HGR.out]; exact Nat.le_refl _) _ _ _⟩
end Go.Proofs.Ytddambfniaiogaa
