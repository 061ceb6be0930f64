/- Layer 33: the order in which all may go on, by the program. Condition: no more than a thousand pipes. -/
import Derived.Test.YtfdjnhnchibejaaRdyMath
namespace Go.Proofs.Ytfdjnhnchibejaa
open Go.RowKit
attribute [local go_sem] more_cell more_frozen more_more more_setCell more_of_drew more_of_drewN lt_more le_more past_cell past_cell2 past_frozen past_frozen2 past_setCell past_setCell2 mid_cell mid_frozen mid_setCell
attribute [local go_sem ↓] Go.wp_at_zero Go.wp_at_succ

theorem SetQ.same {w : World} {b c : Nat} {L L' : List Int} (h : SetQ w b c L) (e : ∀ x, x ∈ L ↔ x ∈ L') : SetQ w b c L' := by
  obtain ⟨n, D, hn, h, k⟩ := h
  exact ⟨n, D, hn, h, fun x hx => (k x hx).trans (e x)⟩
def natL (n : Nat) : List Int := (List.range n).map fun (t : Nat) => (t : Int)
theorem natL_succ (n : Nat) : natL (n + 1) = natL n ++ [(n : Int)] := by
  unfold natL
  rw [List.range_succ, List.map_append]
  rfl
theorem natL_LL (n : Nat) : ∀ x, x ∈ natL n ↔ x ∈ LL n (List.replicate n false) := fun x => by
  rw [LL_mem]
  unfold natL
  rw [List.mem_map]
  constructor
  · rintro ⟨t, ht, rfl⟩
    have := List.mem_range.1 ht
    exact ⟨t, rfl, this, by rw [thB_at (by simpa using this)]; simp⟩
  · rintro ⟨t, rfl, h1, _⟩
    exact ⟨t, List.mem_range.2 h1, rfl⟩
theorem LL_del {n t : Nat} {d : List Bool} (ht : t < d.length) : ∀ x, x ∈ (LL n d).filter (fun y => !(y == (t : Int))) ↔ x ∈ LL n (d.set t true) := fun x => by
  rw [List.mem_filter, LL_mem, LL_mem]
  constructor
  · rintro ⟨⟨z, rfl, h1, h2⟩, h3⟩
    refine ⟨z, rfl, h1, ?_⟩
    rw [thB_on ht, h2]
    simp at h3
    simpa using fun e => h3 (by omega)
  · rintro ⟨z, rfl, h1, h2⟩
    rw [thB_on ht, Bool.or_eq_false_iff] at h2
    refine ⟨⟨z, rfl, h1, h2.1⟩, ?_⟩
    have : z ≠ t := by simpa using h2.2
    simp
    omega
def FilAt (w : World) (b n : Nat) (x : Value) (wr : World) : Prop := ∃ j : Nat, j ≤ n ∧ x = .int .i64 j ∧ Grew w wr ∧ SetQ wr b j (natL j)
structure OrS (w : World) (b base : Nat) (nd : List (List Int)) (n k : Nat) (A : Option Addr) (c : Nat) (wr : World) : Prop where
  grew : Grew w wr
  set : SetQ wr b n (LL n (ordS nd k).2)
  own : wr.ownsRow base 3 1 (.slice A k c) k (nL (ordS nd k).1)
  len : (ordS nd k).1.length = k
theorem OrS.on {w wr w' : World} {b base n k c : Nat} {nd : List (List Int)} {A : Option Addr} (s : OrS w b base nd n k A c wr) (g : Grew wr w') : OrS w b base nd n k A c w' :=
  ⟨s.grew.trans g, s.set.grew g, own_grewU s.own g, s.len⟩
def OrdAt (w : World) (b base : Nat) (nd : List (List Int)) (n : Nat) (x5 x6 : Value) (wr : World) : Prop := ∃ (k : Nat) (A : Option Addr) (c : Nat), k ≤ n ∧ x5 = .slice A k c ∧ x6 = .int .i64 (nxtR (stepR nd (ordS nd k).2)) ∧ OrS w b base nd n k A c wr
def OrdF (w : World) (l : List Nat) (e : Ending) (w' : World) : Prop := ∃ A c, e = .returned (.slice A l.length c) ∧ Grew w w' ∧ TRow w.heap.size w' 3 A (nL l)
set_option maxHeartbeats 4000000 in
set_option maxRecDepth 100000 in
theorem order33_any (o : Oth) (nd : List (List Int)) (n : Nat) (hn : nd.length = n) (hn1 : n ≤ 1000) (hw : wfG nd) (hel : ∀ e ∈ nd, e.length ≤ 30) (A : Option Addr) (k : Nat) (w : World) (ra : PipsR w A nd) :
    Calls Try.prog 101 #[plV o A n k] w (OrdF w (ordS nd n).1) := by
  have HLs := Lib.hid (fun (d : List Bool) b W (hW : Grew w W) (hs : SetQ W b n (LL n d)) => least33_any o nd n hn hw hel A k b n (LL n d) (fun x hx => by
    obtain ⟨t, h1, h2, _⟩ := LL_mem.1 hx
    exact ⟨t, h1, h2⟩) (nxtR (stepR nd d)) (fun out h => by rw [← hn] at h; exact lst_next (by omega) h) W (ra.grew hW) hs)
  have HLe : Hid (∀ k, (ordS nd k).1.length ≤ n) := Lib.hid fun k => by rw [← hn]; exact ordS_le nd k
  have HDl : Hid (∀ k, (ordS nd k).2.length = n) := Lib.hid fun k => by rw [← hn]; exact ordS_dlen nd k
  have HEnd : Hid (∀ k, (ordS nd k).1.length = k → stepR nd (ordS nd k).2 = none → ordS nd n = ordS nd k) := Lib.hid fun k h1 h2 => by rw [← hn]; exact ordS_end h1 h2
  have HSt : Hid (∀ d t, stepR nd d = some t → t < n) := Lib.hid fun d t h => by rw [← hn]; exact (stepR_inv h).1
  have HO0 : Hid (ordS nd 0 = ([], List.replicate n false)) := Lib.hid (by rw [← hn]; rfl)
  have hmm := @run_makeMap Try.prog
  clear hw hel ra hn
  unfold plV at *
  have HB0 : Hid (Blok (w.alloc (.cells (plC o A n k) 117)) w.heap.size 117 (plC o A n k)) := Lib.hid (Blok.new _ _ _ _ rfl)
  have HG0 : Hid (Grew w (w.alloc (.cells (plC o A n k) 117))) := Lib.hid ((Grew.refl w).alloc _)
  go_enter Try.func101, Try.ntmps101
  go_upto_region 1 with fail
  obtain ⟨w1, hw1⟩ : ∃ w1, w1 = w.alloc (.cells (plC o A n k) 117) := ⟨_, rfl⟩
  rw [← hw1] at HB0 HG0 ⊢
  clear hw1
  generalize w.heap.size = g at *
  go_upto_region 2 with fail
  have HS0 := Lib.hid (setQ_new w1 w1.heap.size rfl)
  have HG1 : Hid (Grew w1 (w1.alloc (.map #[] 0))) := Lib.hid ((Grew.refl w1).alloc _)
  have hw1l := HG0.out.size
  have H0 : Hid (FilAt w1 w1.heap.size n (.int .i64 (0 : Nat)) (w1.alloc (.map #[] 0))) := Lib.hid ⟨0, Nat.zero_le _, rfl, HG1.out, HS0.out⟩
  obtain ⟨b0, _, _, b1, _, _, _⟩ := boxP (HB0.out.grew HG1.out)
  clear HS0 HG1
  generalize w1.alloc (.map #[] 0) = w2 at *
  obtain ⟨b, hbb⟩ : ∃ b, w1.heap.size = b := ⟨_, rfl⟩
  rw [hbb] at H0 ⊢
  have HBs := Lib.hid hbb
  clear hbb
  go_wp2
  clear b0 b1
  go_loopw [11] (fun x wr => FilAt w1 b n x wr) (fun x _ => n - (intOf x).toNat)
  case atStart => exact H0.out
  case round =>
    obtain ⟨j, hj, rfl, hg, hs⟩ := hrel
    have HG := Lib.hid hg
    have HS := Lib.hid hs
    clear hg hs H0
    by_cases h1 : j < n
    · have hwz : wfI (j : Int) := wfI_nat (by omega)
      go_wp2_with (at_mapUpdate; refine wpList_qput rfl _ _ _ rfl rfl HS.out (by omega) (j : Int) hwz rfl rfl ?_; intro w9 hs9 hg9; have HS9 := Lib.hid hs9; have HG9 := Lib.hid (grew_map HG.out (by rw [HBs.out]; exact Nat.le_refl _) hg9); clear hs9 hg9)
      exact ⟨⟨j + 1, by omega, by go_num, HG9.out, by rw [natL_succ]; exact HS9.out⟩, by simp only [intOf]; omega⟩
    · obtain rfl : j = n := by omega
      have HO : Hid (OrS w1 b (b + 1) nd j 0 none 0 wr) := Lib.hid ⟨HG.out, by rw [HO0.out]; exact HS.out.same (natL_LL j), by rw [HO0.out]; exact own_none _ _ _ _, by rw [HO0.out]; rfl⟩
      have HSb := Lib.hid HO.out.set
      have hbw : b < wr.heap.size := HSb.out.lt
      obtain ⟨b0, d0, d1, b1, d3, d4, d5⟩ := boxP (HB0.out.grew HG.out)
      have HL0 := Lib.hid (HLs.out (ordS nd 0).2 b wr (HG0.out.trans HG.out) HSb.out)
      unfold plC at HL0
      clear HS HG HSb
      go_wp2_with (go_at_call 172; (with_reducible refine HL0.out.grows.mono ?_); rintro e w6 ⟨rfl, hg6⟩; have HO6 := Lib.hid (HO.out.on hg6); clear hg6)
      clear HL0 HO b0 d0 d1 b1 d3 d4 d5
      go_loopw [5, 6] (fun x5 x6 wx => OrdAt w1 b (b + 1) nd j x5 x6 wx) (fun x _ _ => j - lenV x)
      case atStart => exact ⟨0, none, 0, Nat.zero_le _, rfl, rfl, HO6.out⟩
      case round =>
        obtain ⟨q, A2, c2, hq, rfl, rfl, hs⟩ := hrel
        have HS := Lib.hid hs
        clear hs HO6
        rcases hst : stepR nd (ordS nd q).2 with _ | t
        · have HF : Hid (OrdF w (ordS nd j).1 (.returned (.slice A2 q c2)) wr) := Lib.hid (by
            have e2 := HEnd.out q HS.out.len hst
            exact ⟨A2, c2, by rw [e2, HS.out.len], HG0.out.trans HS.out.grew, by rw [e2]; exact (TRow.own HS.out.own).low (by have := HBs.out; omega)⟩)
          have e1 : decide ((0 : Int) ≤ (-1 : Int)) = false := by decide
          unfold nxtR
          simp only
          clear hst
          go_wp2
          all_goals first | exact HF.out | (go_ret; exact HF.out)
        · have htn := HSt.out _ t hst
          have hqj : q + 1 ≤ j := by
            have h4 := HLe.out (q + 1)
            rw [ordS_some hst, List.length_append, HS.out.len] at h4
            simpa using h4
          have HNx : Hid (ordS nd (q + 1) = ((ordS nd q).1 ++ [t], (ordS nd q).2.set t true)) := Lib.hid (ordS_some hst)
          have hdl := HDl.out q
          have hwz : wfI (t : Int) := wfI_nat (by omega)
          have ht0 : (0 : Int) ≤ (t : Int) := by omega
          unfold nxtR
          simp only
          clear hst
          have HSo := Lib.hid HS.out.own
          have hbl := HS.out.set.lt
          go_upto_region 12 with (at_builtin; refine wpList_appB rfl _ _ 38 3 1 rfl (b + 1) (.int .i64 0) 8 Try.underlying38 infoI rfl (by decide) (by decide) _ q (nL (ordS nd q).1) rfl (own_alloc HSo.out _) _ 1 1 [.int .i64 t] rfl rfl (row_one _ _ _ _ rfl) (by simp [Value.oneCell']) (by omega) (by rw [World.size_alloc]; omega) ?_; intro A9 c9 w9 ho9 hg9; have HG9 := Lib.hid ((HS.out.grew.alloc (.cells #[.int .i64 t] 3)).grown hg9 (fun i hi => by have := own_base HSo.out i hi; have := HBs.out; omega)); have HO9 := Lib.hid ho9; have HS9 := Lib.hid ((HS.out.set.grew ((Grew.refl _).alloc (.cells #[.int .i64 t] 3))).kept hg9 (fun e => by have := own_base HSo.out b e.symm; omega)); clear ho9 hg9)
          have hb9 := HS9.out.lt
          go_upto_region 10 with (at_delete; refine wpList_qdel rfl _ _ rfl rfl HS9.out (t : Int) hwz rfl ?_; intro w10 hs10 hg10; have HG10 := Lib.hid (grew_map HG9.out (by rw [HBs.out]; exact Nat.le_refl _) hg10); have HO10 := Lib.hid (own_grown HO9.out hg10 (fun i hi e => by have := own_base HO9.out i hi; injection e with e; omega)); have HS10 := Lib.hid (hs10.same (LL_del (by rw [hdl]; exact htn))); clear hs10 hg10)
          have HN10 : Hid (OrS w1 b (b + 1) nd j (q + 1) A9 c9 w10) := Lib.hid ⟨HG10.out, by rw [HNx.out]; exact HS10.out, by rw [HNx.out, ← nL_snoc]; exact HO10.out, by rw [HNx.out, List.length_append, HS.out.len]; rfl⟩
          obtain ⟨b0, d0, d1, b1, d3, d4, d5⟩ := boxP (HB0.out.grew HG10.out)
          have HL1 := Lib.hid (HLs.out (ordS nd (q + 1)).2 b w10 (HG0.out.trans HG10.out) HN10.out.set)
          unfold plC at HL1
          clear HS10 HO10 HG10 HO9 HS9 HG9 HSo HNx
          go_wp2_with (go_at_call 172; (with_reducible refine HL1.out.grows.mono ?_); rintro e w6 ⟨rfl, hg6⟩; have HO6 := Lib.hid (HN10.out.on hg6); clear hg6)
          exact ⟨⟨q + 1, A9, c9, hqj, rfl, rfl, HO6.out⟩, by simp only [lenV]; omega⟩
end Go.Proofs.Ytfdjnhnchibejaa
