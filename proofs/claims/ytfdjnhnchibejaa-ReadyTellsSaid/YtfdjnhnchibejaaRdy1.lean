/- Layer 33: plans that come in, as far as their pipes' needs go; how many batches there are. Condition: memory that is there. -/
import Derived.Test.YtfdjnhnchibejaaGG
namespace Go.Proofs.Ytfdjnhnchibejaa
open Go.RowKit
attribute [local go_sem] more_cell more_frozen more_more more_setCell more_of_drew more_of_drewN lt_more le_more past_cell past_cell2 past_frozen past_frozen2 past_setCell past_setCell2 mid_cell mid_frozen mid_setCell
attribute [local go_sem ↓] Go.wp_at_zero Go.wp_at_succ

/-- A slice that nothing is said of. -/
structure Osl where
  a : Option Addr
  n : Nat
  k : Nat
/-- A plan's fields but its pipes. -/
structure Oth where
  p0 : Osl
  p1 : Osl
  p3 : Osl
  p4 : Osl
  p5 : Osl
def plC (o : Oth) (A : Option Addr) (m k : Nat) : Array Value := #[.slice o.p0.a o.p0.n o.p0.k, .slice o.p1.a o.p1.n o.p1.k, .slice A m k, .slice o.p3.a o.p3.n o.p3.k, .slice o.p4.a o.p4.n o.p4.k, .slice o.p5.a o.p5.n o.p5.k]
def plV (o : Oth) (A : Option Addr) (m k : Nat) : Value := .agg (plC o A m k)
def PipR (R : Rw) (l : List Int) (cs : List Value) : Prop := ∃ (s t : Osl) (B : Option Addr) (k : Nat), cs = [.slice s.a s.n s.k, .slice t.a t.n t.k, .slice B l.length k] ∧ R 3 B (iV l)
def PipsR (w : World) (A : Option Addr) (nd : List (List Int)) : Prop := ∃ css, ListR (PipR (PRow w)) 3 nd css ∧ Row w A css.flatten
theorem PipsR.grew {w w' : World} {A : Option Addr} {nd : List (List Int)} (h : PipsR w A nd) (g : Grew w w') : PipsR w' A nd := by
  obtain ⟨css, h1, h2⟩ := h
  exact ⟨css, h1.map fun x cs ⟨s, t, B, k, e, hr⟩ => ⟨s, t, B, k, e, Row.grew hr g⟩, h2.grew g⟩
theorem pips_at {w : World} {A : Option Addr} {nd : List (List Int)} (h : PipsR w A nd) {i : Nat} (hi : i < nd.length) :
    ∃ b o B c, A = some ⟨b, o, none⟩ ∧ b < w.heap.size ∧ w.cell? ⟨b, o + i * 3 + 2, none⟩ = some (.slice B nd[i].length c) ∧ Row w B (iV nd[i]) := by
  obtain ⟨css, h1, h2⟩ := h
  obtain ⟨b, o, cs, hA, hb, hr, _, hc⟩ := h1.at_ h2 (by decide) hi
  obtain ⟨s, t, B, k, rfl, hx⟩ := hr
  exact ⟨b, o, B, k, hA, hb, hc 2 _ rfl, hx⟩
section
variable {H : Type} {enc : TypeId × Value → H} {W : World}
theorem rdw_osl {P : Program} {t e : TypeId} (ht : P.underlying t = some (.slice e)) (hc : P.cellsOf t = 1) : RdW enc P W t 1 (fun (s : Osl) cs => cs = [.slice s.a s.n s.k]) :=
  ⟨hc, fun n cs y _ h _ => by
    rcases Go.Deep.open_slice ht h with ⟨hcs, _⟩ | ⟨a, len, cap, m, k, D, Pl, hcs, _⟩
    · exact ⟨⟨none, 0, 0⟩, hcs⟩
    · exact ⟨⟨some a, len, cap⟩, hcs⟩⟩
theorem rdw_pip : RdW enc Try.prog W 173 3 (fun (l : List Int) cs => PipR (PRow W) l cs ∧ wfL l) :=
  ⟨by kernel_rfl, fun n cs y hl h ho => by
    obtain ⟨s, h0⟩ := rdw_part (i := 0) (o := 0) Try.underlying173 rfl rfl (rdw_osl Try.underlying23 (by kernel_rfl)) (by rw [hl]; decide) h ho
    obtain ⟨t, h1⟩ := rdw_part (i := 1) (o := 1) Try.underlying173 rfl rfl (rdw_osl Try.underlying38 (by kernel_rfl)) (by rw [hl]; decide) h ho
    obtain ⟨l, A, c, css, h2, _, _, _, h3, h4⟩ := rdw_part (i := 2) (o := 2) Try.underlying173 rfl rfl (rdw_slice Try.underlying38 (by kernel_rfl) (by decide) (bytes := 8) (by kernel_rfl) rdw_iS) (by rw [hl]; decide) h ho
    match cs, hl with
    | [a, b, d], _ =>
      simp at h0 h1 h2
      subst h0
      subst h1
      subst h2
      exact ⟨l, ⟨s, t, A, c, rfl, (nums_row h3 h4).1⟩, fun x hx => (nums_row h3 h4).2 x hx⟩⟩
theorem rdw_plan : RdW enc Try.prog W 117 6 (fun (x : Oth × List (List Int)) cs => ∃ A k, cs = (plC x.1 A x.2.length k).toList ∧ x.2.length ≤ 1000000000000000 ∧ PipsR W A x.2 ∧ wfG x.2) :=
  ⟨by kernel_rfl, fun n cs y hl h ho => by
    obtain ⟨s0, h0⟩ := rdw_part (i := 0) (o := 0) Try.underlying117 rfl rfl (rdw_osl Try.underlying38 (by kernel_rfl)) (by rw [hl]; decide) h ho
    obtain ⟨s1, h1⟩ := rdw_part (i := 1) (o := 1) Try.underlying117 rfl rfl (rdw_osl Try.underlying113 (by kernel_rfl)) (by rw [hl]; decide) h ho
    obtain ⟨nd, A, c, css, h2, _, _, h5, h3, h4⟩ := rdw_part (i := 2) (o := 2) Try.underlying117 rfl rfl (rdw_slice Try.underlying114 (by kernel_rfl) (by decide) (bytes := 72) (by kernel_rfl) rdw_pip) (by rw [hl]; decide) h ho
    obtain ⟨s3, g3⟩ := rdw_part (i := 3) (o := 3) Try.underlying117 rfl rfl (rdw_osl Try.underlying23 (by kernel_rfl)) (by rw [hl]; decide) h ho
    obtain ⟨s4, g4⟩ := rdw_part (i := 4) (o := 4) Try.underlying117 rfl rfl (rdw_osl Try.underlying115 (by kernel_rfl)) (by rw [hl]; decide) h ho
    obtain ⟨s5, g5⟩ := rdw_part (i := 5) (o := 5) Try.underlying117 rfl rfl (rdw_osl Try.underlying23 (by kernel_rfl)) (by rw [hl]; decide) h ho
    match cs, hl with
    | [a0, a1, a2, a3, a4, a5], _ =>
      simp at h0 h1 h2 g3 g4 g5
      subst h0
      subst h1
      subst h2
      subst g3
      subst g4
      subst g5
      refine ⟨(⟨s0, s1, s3, s4, s5⟩, nd), A, c, rfl, ?_, ⟨css, h3.each.1, h4⟩, h3.each.2⟩
      unfold reachBytes at h5
      show nd.length ≤ _
      omega⟩
end
theorem boxP {w : World} {g : Nat} {o : Oth} {A : Option Addr} {m k : Nat} (h : Blok w g 117 (plC o A m k)) : g < w.heap.size ∧ w.cell? ⟨g, 0, none⟩ = some (.slice o.p0.a o.p0.n o.p0.k) ∧ w.cell? ⟨g, 1, none⟩ = some (.slice o.p1.a o.p1.n o.p1.k) ∧ w.cell? ⟨g, 2, none⟩ = some (.slice A m k) ∧
    w.cell? ⟨g, 3, none⟩ = some (.slice o.p3.a o.p3.n o.p3.k) ∧ w.cell? ⟨g, 4, none⟩ = some (.slice o.p4.a o.p4.n o.p4.k) ∧ w.cell? ⟨g, 5, none⟩ = some (.slice o.p5.a o.p5.n o.p5.k) :=
  ⟨h.lt, h.cell 0, h.cell 1, h.cell 2, h.cell 3, h.cell 4, h.cell 5⟩
def MuPAt (w : World) (l : List (List Int)) (i : Value) (wr : World) : Prop := ∃ j : Nat, j ≤ l.length ∧ j ≤ 30 ∧ i = .int .i64 j ∧ Grew w wr ∧ ∀ c ∈ l.take j, c.length ≤ 30
set_option maxHeartbeats 1000000 in
set_option maxRecDepth 100000 in
theorem rmuch33_any (o : Oth) (nd : List (List Int)) (A : Option Addr) (k : Nat) (hl : nd.length ≤ 1000000000000000) (w : World) (ra : PipsR w A nd) :
    Calls Try.prog 94 #[plV o A nd.length k] w fun e w' => ∃ t : Bool, e = .returned (.bool t) ∧ Grew w w' ∧ (t = false → nd.length ≤ 20 ∧ ∀ c ∈ nd, c.length ≤ 30) := by
  have RA := Lib.hid ra
  clear ra
  unfold plV
  have HB0 : Hid (Blok (w.alloc (.cells (plC o A nd.length k) 117)) w.heap.size 117 (plC o A nd.length k)) := Lib.hid (Blok.new _ _ _ _ rfl)
  have HG0 : Hid (Grew w (w.alloc (.cells (plC o A nd.length k) 117))) := Lib.hid ((Grew.refl w).alloc _)
  go_enter Try.func94, Try.ntmps94
  go_upto_region 1 with fail
  obtain ⟨w1, hw1⟩ : ∃ w1, w1 = w.alloc (.cells (plC o A nd.length k) 117) := ⟨_, rfl⟩
  rw [← hw1] at HB0 HG0 ⊢
  clear hw1
  generalize w.heap.size = g at *
  go_wp2
  go_loopw [3] (fun i wr => MuPAt w1 nd i wr) (fun i _ => nd.length - (intOf i).toNat)
  case atStart => exact ⟨0, Nat.zero_le _, by omega, rfl, Grew.refl _, by simp⟩
  case round =>
    obtain ⟨i, hi, h40, rfl, hg, hk⟩ := hrel
    have HG := Lib.hid (HG0.out.trans hg)
    have HG1 := Lib.hid hg
    obtain ⟨b0, _, _, b1, _, _, _⟩ := boxP (HB0.out.grew hg)
    have HK := Lib.hid hk
    clear hg hk
    by_cases h : i < nd.length
    · by_cases h4 : i < 30
      · obtain ⟨b, o2, C, c, rfl, hb, c0, rC⟩ := pips_at (RA.out.grew HG.out) h
        have HN : Hid (nd[i].length ≤ 30 → ∀ c ∈ nd.take (i + 1), c.length ≤ 30) := Lib.hid fun q c hc => by
          rw [List.take_succ_eq_append_getElem h] at hc
          rcases List.mem_append.1 hc with hc | hc
          · exact HK.out c hc
          · rw [List.mem_singleton.1 hc]; exact q
        clear HK rC
        have h4' : (i : Int) < 30 := by omega
        have h4d : decide ((i : Int) < 30) = true := decide_eq_true h4'
        generalize nd[i] = x at *
        by_cases h60 : 30 < x.length
        · have h60' : (30 : Int) < x.length := by omega
          clear HN
          go_wp2
          go_ret
          exact ⟨true, rfl, HG.out, by simp⟩
        · have h60' : (x.length : Int) ≤ 30 := by omega
          have HN1 := Lib.hid (HN.out (by omega))
          clear HN
          go_wp2
          exact ⟨⟨i + 1, by omega, by omega, by go_num, HG1.out, HN1.out⟩, by simp only [intOf]; omega⟩
      · obtain rfl : i = 30 := by omega
        have h30 : (20 : Int) < nd.length := by omega
        have hd : decide ((20 : Int) < nd.length) = true := decide_eq_true h30
        clear HK
        go_wp2
        go_ret
        exact ⟨true, rfl, HG.out, by simp⟩
    · obtain rfl : i = nd.length := by omega
      rw [List.take_length] at HK
      by_cases h30 : 20 < nd.length
      · have h30' : (20 : Int) < nd.length := by omega
        have hd : decide ((20 : Int) < nd.length) = true := decide_eq_true h30'
        clear HK
        go_wp2
        go_ret
        exact ⟨true, rfl, HG.out, by simp⟩
      · have h30' : (nd.length : Int) ≤ 20 := by omega
        have hd : decide ((20 : Int) < nd.length) = false := decide_eq_false (by omega)
        have HE : Hid (nd.length ≤ 20 ∧ ∀ c ∈ nd, c.length ≤ 30) := Lib.hid ⟨by omega, HK.out⟩
        clear HK
        go_wp2
        go_ret
        exact ⟨false, rfl, HG.out, fun _ => HE.out⟩
/-- How many batches any rows take. -/
def batI (r b : Int) : Int := if r ≤ 0 then 1 else (r - 1) / (if b < 1 then 1 else b) + 1
theorem batI_in {r b : Int} (hr : wfI r) : 1 ≤ batI r b ∧ batI r b ≤ 9223372036854775807 := by
  have h2 : r ≤ 9223372036854775807 := by
    unfold wfI at hr
    have h1 : IntKind.i64.min = -9223372036854775808 := by decide
    have h2 : IntKind.i64.max = 9223372036854775807 := by decide
    simp only [Lit.wf, h1, h2, Bool.and_eq_true, decide_eq_true_eq] at hr
    omega
  unfold batI
  split
  · omega
  · rename_i h0
    have hb : (1 : Int) ≤ (if b < 1 then 1 else b) := by split <;> omega
    generalize (if b < 1 then (1 : Int) else b) = c at *
    have h3 : 0 ≤ (r - 1) / c := Int.ediv_nonneg (by omega) (by omega)
    have h4 : (r - 1) / c ≤ r - 1 := Int.ediv_le_self _ (by omega)
    omega
theorem wfI_in {r : Int} (hr : wfI r) : -9223372036854775808 ≤ r ∧ r ≤ 9223372036854775807 := by
  unfold wfI at hr
  have h1 : IntKind.i64.min = -9223372036854775808 := by decide
  have h2 : IntKind.i64.max = 9223372036854775807 := by decide
  simp only [Lit.wf, h1, h2, Bool.and_eq_true, decide_eq_true_eq] at hr
  omega
theorem bat33_any (r b : Int) (hr : wfI r) (hb : wfI b) (w : World) : Gives Try.prog 106 #[.int .i64 r, .int .i64 b] w (.int .i64 (batI r b)) := by
  have hr2 := wfI_in hr
  have hb2 := wfI_in hb
  have hin := batI_in (b := b) hr
  clear hr hb
  unfold Gives
  by_cases h0 : r ≤ 0
  · have e : batI r b = 1 := by unfold batI; rw [if_pos h0]
    rw [e]
    clear hin e
    go_enter Try.func106, Try.ntmps106
    go_wp2
    go_ret
    exact ⟨rfl, by (show Grew _ _; repeat (first | exact Grew.refl _ | refine Grew.alloc ?_ _ | refine Grew.drew ?_ | refine Grew.more ?_ _))⟩
  · have h0' : 0 < r := by omega
    obtain ⟨c, hc⟩ : ∃ c, (if b < 1 then (1 : Int) else b) = c := ⟨_, rfl⟩
    have hcm : max 1 b = c := by rw [← hc]; split <;> omega
    have hc1 : 1 ≤ c ∧ c ≤ 9223372036854775807 := by rw [← hc]; split <;> omega
    have e : batI r b = (r - 1) / c + 1 := by unfold batI; rw [if_neg h0, hc]
    have h3 : 0 ≤ (r - 1) / c := Int.ediv_nonneg (by omega) (by omega)
    have h4 : (r - 1) / c ≤ r - 1 := Int.ediv_le_self _ (by omega)
    have hsub : IntKind.i64.wrap (r - 1) = r - 1 := IntWalk.i64_in _ (by omega)
    have hquo : IntKind.i64.wrap ((r - 1).tdiv c) = (r - 1) / c := by
      rw [Int.tdiv_eq_ediv_of_nonneg (by omega)]
      exact IntWalk.i64_in _ (by omega)
    have hadd : IntKind.i64.wrap ((r - 1) / c + 1) = (r - 1) / c + 1 := IntWalk.i64_in _ (by omega)
    have hz : (c == 0) = false := by rw [beq_eq_false_iff_ne]; omega
    rw [e]
    clear e hin hc h3 h4
    go_enter Try.func106, Try.ntmps106
    go_wp2
    go_ret
    exact ⟨rfl, by (show Grew _ _; repeat (first | exact Grew.refl _ | refine Grew.alloc ?_ _ | refine Grew.drew ?_ | refine Grew.more ?_ _))⟩
theorem rbat33_any (r b : Int) (hr : wfI r) (hb : wfI b) (w : World) : Gives Try.prog 107 #[.int .i64 r, .int .i64 b] w (.int .i64 (batI r b)) := by
  have hr2 := wfI_in hr
  have hb2 := wfI_in hb
  have hin := batI_in (b := b) hr
  clear hr hb
  unfold Gives
  by_cases h0 : r ≤ 0
  · have e : batI r b = 1 := by unfold batI; rw [if_pos h0]
    have h0' : r < 1 := by omega
    rw [e]
    clear hin e
    by_cases hb : b < 1
    · go_enter Try.func107, Try.ntmps107
      go_wp2
      go_ret
      exact ⟨rfl, by (show Grew _ _; repeat (first | exact Grew.refl _ | refine Grew.alloc ?_ _ | refine Grew.drew ?_ | refine Grew.more ?_ _))⟩
    · have hb' : 1 ≤ b := by omega
      clear hb
      go_enter Try.func107, Try.ntmps107
      go_wp2
      go_ret
      exact ⟨rfl, by (show Grew _ _; repeat (first | exact Grew.refl _ | refine Grew.alloc ?_ _ | refine Grew.drew ?_ | refine Grew.more ?_ _))⟩
  · have h0' : 1 ≤ r := by omega
    obtain ⟨c, hc⟩ : ∃ c, (if b < 1 then (1 : Int) else b) = c := ⟨_, rfl⟩
    have hc1 : 1 ≤ c ∧ c ≤ 9223372036854775807 := by rw [← hc]; split <;> omega
    have e : batI r b = (r - 1) / c + 1 := by unfold batI; rw [if_neg h0, hc]
    have h3 : 0 ≤ (r - 1) / c := Int.ediv_nonneg (by omega) (by omega)
    have h4 : (r - 1) / c ≤ r - 1 := Int.ediv_le_self _ (by omega)
    have hsub : IntKind.i64.wrap (r - 1) = r - 1 := IntWalk.i64_in _ (by omega)
    have hquo : IntKind.i64.wrap ((r - 1).tdiv c) = (r - 1) / c := by
      rw [Int.tdiv_eq_ediv_of_nonneg (by omega)]
      exact IntWalk.i64_in _ (by omega)
    have hadd : IntKind.i64.wrap ((r - 1) / c + 1) = (r - 1) / c + 1 := IntWalk.i64_in _ (by omega)
    have hz : (c == 0) = false := by rw [beq_eq_false_iff_ne]; omega
    rw [e]
    by_cases hb : b < 1
    · obtain rfl : c = 1 := by rw [← hc, if_pos hb]
      clear e hin hc h3 h4 h0
      go_enter Try.func107, Try.ntmps107
      go_wp2
      go_ret
      exact ⟨by simp, by (show Grew _ _; repeat (first | exact Grew.refl _ | refine Grew.alloc ?_ _ | refine Grew.drew ?_ | refine Grew.more ?_ _))⟩
    · obtain rfl : b = c := by rw [← hc, if_neg hb]
      have hb' : 1 ≤ b := by omega
      clear e hin hc h3 h4 h0 hb
      go_enter Try.func107, Try.ntmps107
      go_wp2
      go_ret
      exact ⟨rfl, by (show Grew _ _; repeat (first | exact Grew.refl _ | refine Grew.alloc ?_ _ | refine Grew.drew ?_ | refine Grew.more ?_ _))⟩
end Go.Proofs.Ytfdjnhnchibejaa
