/- Layer 27: small words on what is said, by the document. Condition: what lies in memory that is there. -/
import Derived.Test.YtdohfbpjmnhhmaaStat
import Derived.Test.YtdohfbpjmnhhmaaSame
import Derived.Test.YtdohfbpjmnhhmaaTabKit
import Derived.Test.YtdohfbpjmnhhmaaRowEq
namespace Go.Proofs.Ytdohfbpjmnhhmaa
open Go.RowKit
attribute [local go_sem] more_cell more_frozen more_more more_setCell more_of_drew more_of_drewN lt_more le_more past_cell past_cell2 past_frozen past_frozen2 past_setCell past_setCell2 mid_cell mid_frozen mid_setCell
attribute [local go_sem ↓] Go.wp_at_zero Go.wp_at_succ

theorem rnear_any (n high : Int) (w : World) : Gives Try.prog 30 #[.int .i64 n, .int .i64 high] w (.int .i64 (nearI n high)) := by
  unfold Gives
  have hc : n < 0 ∨ (0 ≤ n ∧ high < n) ∨ (0 ≤ n ∧ n ≤ high) := by omega
  rcases hc with h | ⟨h1, h2⟩ | ⟨h1, h2⟩
  · rw [show nearI n high = 0 from if_pos h]
    go_enter Try.func30, Try.ntmps30
    go_wp2
    go_ret
    exact ⟨rfl, by (show Grew _ _; repeat (first | exact Grew.refl _ | refine Grew.alloc ?_ _ | refine Grew.drew ?_ | refine Grew.more ?_ _))⟩
  · rw [show nearI n high = high by unfold nearI; rw [if_neg (by omega), if_pos h2]]
    go_enter Try.func30, Try.ntmps30
    go_wp2
    go_ret
    exact ⟨rfl, by (show Grew _ _; repeat (first | exact Grew.refl _ | refine Grew.alloc ?_ _ | refine Grew.drew ?_ | refine Grew.more ?_ _))⟩
  · rw [show nearI n high = n by unfold nearI; rw [if_neg (by omega), if_neg (by omega)]]
    go_enter Try.func30, Try.ntmps30
    go_wp2
    go_ret
    exact ⟨rfl, by (show Grew _ _; repeat (first | exact Grew.refl _ | refine Grew.alloc ?_ _ | refine Grew.drew ?_ | refine Grew.more ?_ _))⟩
theorem cst_cases (x y : Cst) : ((x.n == y.n) = false) ∨ (x.n = y.n ∧ (x.u == y.u) = false) ∨ (x.n = y.n ∧ x.u = y.u) := by
  by_cases h1 : x.n = y.n
  · by_cases h2 : x.u = y.u
    · exact Or.inr (Or.inr ⟨h1, h2⟩)
    · exact Or.inr (Or.inl ⟨h1, by simpa using h2⟩)
  · exact Or.inl (by simpa using h1)
set_option maxHeartbeats 1000000 in
theorem rsamecol_any (x y : Cst) (A B : Option Addr) (k j : Nat) (hx : x.m.length ≤ 1000000000) (hy : y.m.length ≤ 1000000000) (w : World) (ra : Row w A (iV x.m)) (rb : Row w B (iV y.m)) :
    Gives Try.prog 15 #[.agg #[.int .i64 x.u, .int .i64 x.n, .slice A x.m.length k], .agg #[.int .i64 y.u, .int .i64 y.n, .slice B y.m.length j]] w (.bool (decide (x = y))) := by
  have HS : Hid (∀ W, Grew w W → Gives Try.prog 20 #[.slice A x.m.length k, .slice B y.m.length j] W (.bool (decide (x.m = y.m)))) := Lib.hid fun W hW => samelist_any x.m y.m A B k j W (ra.grew hW) (rb.grew hW) (by omega) (by omega)
  clear ra rb hx hy
  obtain ⟨u, n, m⟩ := x
  obtain ⟨u', n', m'⟩ := y
  have hc := cst_cases ⟨u, n, m⟩ ⟨u', n', m'⟩
  simp only at hc HS ⊢
  unfold Gives
  rcases hc with h | ⟨rfl, h⟩ | ⟨rfl, rfl⟩
  · have e : decide ((⟨u, n, m⟩ : Cst) = ⟨u', n', m'⟩) = false := decide_eq_false (by rintro ⟨⟩; simp at h)
    rw [e]
    clear HS e
    go_enter Try.func15, Try.ntmps15
    go_wp2
    go_ret
    exact ⟨rfl, by (show Grew _ _; repeat (first | exact Grew.refl _ | refine Grew.alloc ?_ _ | refine Grew.drew ?_ | refine Grew.more ?_ _))⟩
  · have e : decide ((⟨u, n, m⟩ : Cst) = ⟨u', n, m'⟩) = false := decide_eq_false (by rintro ⟨⟩; simp at h)
    rw [e]
    have h0 : (n == n) = true := by simp
    clear HS e
    go_enter Try.func15, Try.ntmps15
    go_wp2
    go_ret
    exact ⟨rfl, by (show Grew _ _; repeat (first | exact Grew.refl _ | refine Grew.alloc ?_ _ | refine Grew.drew ?_ | refine Grew.more ?_ _))⟩
  · have e : decide ((⟨u, n, m⟩ : Cst) = ⟨u, n, m'⟩) = decide (m = m') := by simp
    rw [e]
    generalize decide (m = m') = t at *
    have h0 : (n == n) = true := by simp
    have h1 : (u == u) = true := by simp
    clear e
    go_enter Try.func15, Try.ntmps15
    go_wp2_with (go_at_call 20; (with_reducible refine (HS.out _ (((Grew.refl w).alloc _).alloc _)).grows.mono ?_); rintro e w2 ⟨rfl, hg2⟩; have HG2 := Lib.hid ((((Grew.refl w).alloc _).alloc _).trans hg2); clear hg2)
    go_ret
    exact ⟨rfl, HG2.out⟩
def EqCs (w : World) (l m : List Cst) (i : Value) (wr : World) : Prop := ∃ j : Nat, j ≤ l.length ∧ i = .int .i64 j ∧ Grew w wr ∧ l.take j = m.take j
theorem boxS {w : World} {g : Nat} {v0 v1 : Value} (h : Blok w g 31 #[v0, v1]) : g < w.heap.size ∧ w.cell? ⟨g, 0, none⟩ = some v0 ∧ w.cell? ⟨g, 1, none⟩ = some v1 := ⟨h.lt, h.cell 0, h.cell 1⟩
set_option maxHeartbeats 4000000 in
set_option maxRecDepth 100000 in
theorem rsamestat_any (r r' : Int) (l l' : List Cst) (A B : Option Addr) (k j : Nat) (hs : l.length ≤ 1000000) (hm : ∀ x ∈ l, x.m.length ≤ 1000000000) (hm' : ∀ x ∈ l', x.m.length ≤ 1000000000) (t : Bool) (ht : t = true ↔ (r = r' ∧ l = l')) (w : World) (ra : CstsR (PRow w) A l) (rb : CstsR (PRow w) B l') :
    Gives Try.prog 9 #[.agg #[.int .i64 r, .slice A l.length k], .agg #[.int .i64 r', .slice B l'.length j]] w (.bool t) := by
  have RA := Lib.hid ra
  have RB := Lib.hid rb
  have HT := Lib.hid ht
  have HM1 := Lib.hid hm
  have HM2 := Lib.hid hm'
  clear ra rb ht hm hm'
  unfold Gives
  by_cases hrr : r = r'
  · subst hrr
    by_cases hmm : l.length = l'.length
    · have HM := Lib.hid hmm
      rw [← hmm]
      clear hmm
      have e0 : ((l.length : Int) != (l.length : Int)) = false := by simp
      have e1 : (r != r) = false := by simp
      obtain ⟨W0, hW0⟩ : ∃ W0, W0 = (w.alloc (.cells #[.int .i64 r, .slice A l.length k] 31)).alloc (.cells #[.int .i64 r, .slice B l.length j] 31) := ⟨_, rfl⟩
      have HG0 : Hid (Grew w W0) := Lib.hid (by rw [hW0]; exact ((Grew.refl w).alloc _).alloc _)
      have HB1 : Hid (Blok W0 w.heap.size 31 #[.int .i64 r, .slice A l.length k]) := Lib.hid (by rw [hW0]; exact (Blok.new _ _ _ _ rfl).alloc _)
      have HB2 : Hid (Blok W0 (w.heap.size + 1) 31 #[.int .i64 r, .slice B l.length j]) := Lib.hid (by rw [hW0]; exact Blok.new _ _ _ _ (by simp))
      go_enter Try.func9, Try.ntmps9
      go_upto_region 1 with fail
      rw [← hW0]
      clear hW0
      generalize w.heap.size + 1 = g2 at *
      generalize w.heap.size = g1 at *
      obtain ⟨x1, x2, x3⟩ := boxS HB1.out
      obtain ⟨y1, y2, y3⟩ := boxS HB2.out
      go_wp2
      clear x1 x2 x3 y1 y2 y3
      go_loopw [5] (fun i wr => EqCs W0 l l' i wr) (fun i _ => l.length - (intOf i).toNat)
      case atStart => exact ⟨0, Nat.zero_le _, rfl, by (show Grew _ _; repeat (first | exact Grew.refl _ | refine Grew.alloc ?_ _ | refine Grew.drew ?_ | refine Grew.more ?_ _)), rfl⟩
      case round =>
        obtain ⟨i, hi, rfl, hg, hk⟩ := hrel
        have HG := Lib.hid hg
        have HK := Lib.hid hk
        obtain ⟨x1, x2, x3⟩ := boxS (HB1.out.grew hg)
        obtain ⟨y1, y2, y3⟩ := boxS (HB2.out.grew hg)
        clear hg hk
        by_cases h : i < l.length
        · have h2 : i < l'.length := by rw [← HM.out]; exact h
          obtain ⟨b, o, C, c, rfl, hb, c0, c1, c2, hc, rC⟩ := cstsR_at (RA.out.grew (HG0.out.trans HG.out)) h
          obtain ⟨b', o', D, d, rfl, hb', d0, d1, d2, hd, rD⟩ := cstsR_at (RB.out.grew (HG0.out.trans HG.out)) h2
          have HN : Hid (l[i] = l'[i] → l.take (i + 1) = l'.take (i + 1)) := Lib.hid fun q => take_eq HK.out h h2 q
          have HF : Hid (¬ l[i] = l'[i] → t = false) := Lib.hid fun q => not_of HT.out (by
            rintro ⟨_, e⟩
            subst e
            exact q rfl)
          have HS : Hid (∀ W, Grew wr W → Gives Try.prog 15 #[.agg #[.int .i64 l[i].u, .int .i64 l[i].n, .slice C l[i].m.length c], .agg #[.int .i64 l'[i].u, .int .i64 l'[i].n, .slice D l'[i].m.length d]] W (.bool (decide (l[i] = l'[i])))) := Lib.hid fun W hW =>
            rsamecol_any l[i] l'[i] C D c d (HM1.out _ (List.getElem_mem h)) (HM2.out _ (List.getElem_mem h2)) W (rC.grew hW) (rD.grew hW)
          clear HT HK hc hd rC rD
          obtain ⟨q, hq⟩ : ∃ q, decide (l[i] = l'[i]) = q := ⟨_, rfl⟩
          rw [hq] at HS
          have HQ := Lib.hid hq
          clear hq
          generalize l[i] = x at *
          generalize l'[i] = y at *
          go_upto_region 6 with fail
          have HSW : Hid (∀ x', Gives Try.prog 15 #[.agg #[.int .i64 x.u, .int .i64 x.n, .slice C x.m.length c], .agg #[.int .i64 y.u, .int .i64 y.n, .slice D y.m.length d]] (more wr x') (.bool q)) := Lib.hid fun x' => HS.out _ ⟨x', rfl⟩
          clear HS
          refine wp_region_more (by kernel_rfl) (by kernel_rfl) ?_
          repeat (go_big_quiet_step (((go_at_call 15; with_reducible exact (HSW.out _).within))))
          refine wpQuiet_nil ?_
          rintro _ ⟨z, rfl⟩
          cases q
          · obtain rfl := HF.out (of_decide_eq_false HQ.out)
            clear HN HF
            go_wp2
            go_ret
            exact ⟨rfl, HG0.out.trans (HG.out.more z)⟩
          · have HN1 := Lib.hid (HN.out (of_decide_eq_true HQ.out))
            clear HN HF
            go_wp2
            exact ⟨⟨i + 1, by omega, by go_num, HG.out.more z, HN1.out⟩, by simp only [intOf]; omega⟩
        · obtain rfl : i = l.length := by omega
          have ht : t = true := HT.out.2 (by
            have := HK.out
            refine ⟨by trivial, ?_⟩
            rwa [List.take_length, List.take_of_length_le (Nat.le_of_eq HM.out.symm)] at this)
          subst ht
          go_wp2
          go_ret
          exact ⟨rfl, HG0.out.trans HG.out⟩
    · have e0 : ((l.length : Int) != (l'.length : Int)) = true := by rw [bne_iff_ne]; omega
      have e1 : (r != r) = false := by simp
      obtain rfl := not_of HT.out (fun e => hmm (by rw [e.2]))
      go_enter Try.func9, Try.ntmps9
      go_wp2
      go_ret
      exact ⟨rfl, by (show Grew _ _; repeat (first | exact Grew.refl _ | refine Grew.alloc ?_ _ | refine Grew.drew ?_ | refine Grew.more ?_ _))⟩
  · have e1 : (r != r') = true := by rw [bne_iff_ne]; exact hrr
    obtain rfl := not_of HT.out (fun e => hrr e.1)
    go_enter Try.func9, Try.ntmps9
    go_wp2
    go_ret
    exact ⟨rfl, by (show Grew _ _; repeat (first | exact Grew.refl _ | refine Grew.alloc ?_ _ | refine Grew.drew ?_ | refine Grew.more ?_ _))⟩
def goodS (s : Sst) : Prop := s.cols.length ≤ 30 ∧ ∀ c ∈ s.cols, c.m.length ≤ 60
def MuchSAt (w : World) (l : List Cst) (i : Value) (wr : World) : Prop := ∃ j : Nat, j ≤ l.length ∧ j ≤ 40 ∧ i = .int .i64 j ∧ Grew w wr ∧ ∀ c ∈ l.take j, c.m.length ≤ 60
set_option maxHeartbeats 4000000 in
set_option maxRecDepth 100000 in
theorem rmuchS_any (r : Int) (l : List Cst) (A : Option Addr) (k : Nat) (hl : l.length ≤ 1000000000000000) (w : World) (ra : CstsR (PRow w) A l) :
    Calls Try.prog 12 #[.agg #[.int .i64 r, .slice A l.length k]] w fun e w' => ∃ t : Bool, e = .returned (.bool t) ∧ Grew w w' ∧ (t = false → l.length ≤ 30 ∧ ∀ c ∈ l, c.m.length ≤ 60) := by
  have RA := Lib.hid ra
  clear ra
  obtain ⟨W0, hW0⟩ : ∃ W0, W0 = w.alloc (.cells #[.int .i64 r, .slice A l.length k] 31) := ⟨_, rfl⟩
  have HG0 : Hid (Grew w W0) := Lib.hid (by rw [hW0]; exact (Grew.refl w).alloc _)
  have HB1 : Hid (Blok W0 w.heap.size 31 #[.int .i64 r, .slice A l.length k]) := Lib.hid (by rw [hW0]; exact Blok.new _ _ _ _ rfl)
  go_enter Try.func12, Try.ntmps12
  go_upto_region 1 with fail
  rw [← hW0]
  clear hW0
  generalize w.heap.size = g1 at *
  go_wp2
  go_loopw [3] (fun i wr => MuchSAt W0 l i wr) (fun i _ => l.length - (intOf i).toNat)
  case atStart => exact ⟨0, Nat.zero_le _, by omega, rfl, by (show Grew _ _; repeat (first | exact Grew.refl _ | refine Grew.alloc ?_ _ | refine Grew.drew ?_ | refine Grew.more ?_ _)), by simp⟩
  case round =>
    obtain ⟨i, hi, h40, rfl, hg, hk⟩ := hrel
    have HG := Lib.hid hg
    have HK := Lib.hid hk
    obtain ⟨x1, x2, x3⟩ := boxS (HB1.out.grew hg)
    clear hg hk
    by_cases h : i < l.length
    · by_cases h4 : i < 40
      · obtain ⟨b, o, C, c, rfl, hb, c0, c1, c2, hc, rC⟩ := cstsR_at (RA.out.grew (HG0.out.trans HG.out)) h
        have HN : Hid (l[i].m.length ≤ 60 → ∀ c ∈ l.take (i + 1), c.m.length ≤ 60) := Lib.hid fun q c hc => by
          rw [List.take_succ_eq_append_getElem h] at hc
          rcases List.mem_append.1 hc with hc | hc
          · exact HK.out c hc
          · rw [List.mem_singleton.1 hc]; exact q
        clear HK hc rC
        have h4' : (i : Int) < 40 := by omega
        generalize l[i] = x at *
        by_cases h60 : 60 < x.m.length
        · have h60' : (60 : Int) < x.m.length := by omega
          clear HN
          go_wp2
          go_ret
          exact ⟨true, rfl, HG0.out.trans HG.out, by simp⟩
        · have h60' : (x.m.length : Int) ≤ 60 := by omega
          have HN1 := Lib.hid (HN.out (by omega))
          clear HN
          go_wp2
          exact ⟨⟨i + 1, by omega, by omega, by go_num, HG.out, HN1.out⟩, by simp only [intOf]; omega⟩
      · obtain rfl : i = 40 := by omega
        have h30 : (30 : Int) < l.length := by omega
        clear HK
        go_wp2
        go_ret
        exact ⟨true, rfl, HG0.out.trans HG.out, by simp⟩
    · obtain rfl : i = l.length := by omega
      rw [List.take_length] at HK
      by_cases h30 : 30 < l.length
      · have h30' : (30 : Int) < l.length := by omega
        have hd : decide ((30 : Int) < l.length) = true := decide_eq_true h30'
        clear HK
        go_wp2
        go_ret
        exact ⟨true, rfl, HG0.out.trans HG.out, by simp⟩
      · have h30' : (l.length : Int) ≤ 30 := by omega
        have hd : decide ((30 : Int) < l.length) = false := decide_eq_false (by omega)
        have HE : Hid (l.length ≤ 30 ∧ ∀ c ∈ l, c.m.length ≤ 60) := Lib.hid ⟨by omega, HK.out⟩
        clear HK
        go_wp2
        go_ret
        exact ⟨false, rfl, HG0.out.trans HG.out, fun _ => HE.out⟩
end Go.Proofs.Ytdohfbpjmnhhmaa
