/- The statement SiftKeepsSaid: for every input the law returns true, and each argument reads as it did. No condition beyond the row's own. -/
import Derived.Test.YtklhledcnijchaaDoorSift3
import Derived.Test.YtklhledcnijchaaDoorBloom5
import Derived.Test.YtklhledcnijchaaDoorHead
import Derived.Deep.RegionWith
import Derived.Test.YtklhledcnijchaaDoorSift4
import Derived.Test.YtklhledcnijchaaDoorVls
import Derived.Test.YtklhledcnijchaaDoorApp2
import Derived.Test.YtklhledcnijchaaDoorVal
import Derived.Deep.DeepCutAuto
import Derived.Test.YtklhledcnijchaaDoorGoodRow
import Derived.Test.YtklhledcnijchaaDoorSift1
import Derived.Test.YtklhledcnijchaaDoorRowMuch
import Derived.Test.YtklhledcnijchaaDoorTab
import Derived.Test.YtklhledcnijchaaDoorFrame2
import Derived.Test.YtklhledcnijchaaDoorTie
import Derived.Test.YtklhledcnijchaaDoorCards
import Derived.ProofKit
import Derived.LaidMore
import Derived.Lib.LaidTab
import Derived.Stop.LaidErr
import Derived.Stop.Joined
import Derived.SevenTiedAt

/- Layer 20: the spans of two filters put together. Condition: rows that lie in memory that is there; few values. -/
namespace Go.Proofs.YtklhledcnijchaaDoor
open Go.RowKit
attribute [local go_sem] more_cell more_frozen more_more more_setCell more_of_drew more_of_drewN lt_more le_more past_cell past_cell2 past_frozen past_frozen2 past_setCell past_setCell2 mid_cell mid_frozen mid_setCell
attribute [local go_sem ↓] Go.wp_at_zero Go.wp_at_succ

def padS (a : List S) (n : Nat) : List S := a ++ List.replicate (n - a.length) zeroS
theorem padS_getD (a : List S) (n i : Nat) : (padS a n).getD i zeroS = a.getD i zeroS := by
  unfold padS
  rw [List.getD_eq_getElem?_getD, List.getD_eq_getElem?_getD, List.getElem?_append]
  split
  · rfl
  · rename_i h
    rw [List.getElem?_replicate, List.getElem?_eq_none (by omega : a.length ≤ i)]
    split <;> rfl
def uniJ (a b : List S) : Nat → List S
  | 0 => padS a (max a.length b.length)
  | j + 1 => (uniJ a b j).set j (unionS ((uniJ a b j).getD j zeroS) (b.getD j zeroS))
theorem uniJ_len (a b : List S) : ∀ j, (uniJ a b j).length = max a.length b.length
  | 0 => by
    show (a ++ List.replicate _ zeroS).length = _
    rw [List.length_append, List.length_replicate]
    omega
  | j + 1 => by
    show ((uniJ a b j).set j _).length = _
    rw [List.length_set, uniJ_len a b j]
theorem uniJ_getD (a b : List S) : ∀ j, j ≤ b.length → ∀ i, (uniJ a b j).getD i zeroS = if i < j then unionS (a.getD i zeroS) (b.getD i zeroS) else a.getD i zeroS
  | 0, _, i => by
    rw [if_neg (Nat.not_lt_zero i)]
    exact padS_getD a _ i
  | j + 1, h, i => by
    have ih := uniJ_getD a b j (by omega)
    have hl := uniJ_len a b j
    show ((uniJ a b j).set j _).getD i zeroS = _
    rw [List.getD_eq_getElem?_getD, List.getElem?_set]
    by_cases e : j = i
    · subst e
      rw [if_pos rfl, if_pos (by omega), if_pos (by omega), Option.getD_some, ih j, if_neg (Nat.lt_irrefl j)]
    · rw [if_neg e, ← List.getD_eq_getElem?_getD, ih i]
      by_cases h1 : i < j
      · rw [if_pos h1, if_pos (by omega)]
      · rw [if_neg h1, if_neg (by omega)]
theorem few_getD {m : Nat} {ss : List S} (h : ∀ s ∈ ss, FewN m s) (i : Nat) : FewN m (ss.getD i zeroS) := by
  rw [List.getD_eq_getElem?_getD]
  rcases Nat.lt_or_ge i ss.length with hi | hi
  · rw [List.getElem?_eq_getElem hi]
    exact h _ (List.getElem_mem hi)
  · rw [List.getElem?_eq_none hi]
    exact fewN_zero m
theorem made_flatS (n : Nat) : madeCells #[Value.int .i64 0, .int .i64 0, .string ⟨#[]⟩, .int .i64 0, .int .i64 0, .string ⟨#[]⟩, .int .i64 0, .int .i64 0] (n * 8) = (flatS (List.replicate n zeroS)).toArray := by
  apply Array.ext'
  have e : ∀ k, (madeCells #[Value.int .i64 0, .int .i64 0, .string ⟨#[]⟩, .int .i64 0, .int .i64 0, .string ⟨#[]⟩, .int .i64 0, .int .i64 0] k).toList = (List.range k).map (fun i => (#[Value.int .i64 0, .int .i64 0, .string ⟨#[]⟩, .int .i64 0, .int .i64 0, .string ⟨#[]⟩, .int .i64 0, .int .i64 0] : Array Value)[i % 8]!) := fun k => by
    unfold madeCells
    simp
  rw [e]
  show _ = flatS (List.replicate n zeroS)
  induction n with
  | zero => rfl
  | succ n ih =>
    rw [show (n + 1) * 8 = n * 8 + 1 + 1 + 1 + 1 + 1 + 1 + 1 + 1 by omega, List.range_succ, List.range_succ, List.range_succ, List.range_succ, List.range_succ, List.range_succ, List.range_succ, List.range_succ, List.map_append, List.map_append, List.map_append, List.map_append, List.map_append, List.map_append, List.map_append, List.map_append, ih, List.replicate_succ', flatS_app]
    simp only [List.append_assoc]
    congr 1
    have h0 : n * 8 % 8 = 0 := by omega
    have h1 : (n * 8 + 1) % 8 = 1 := by omega
    have h2 : (n * 8 + 1 + 1) % 8 = 2 := by omega
    have h3 : (n * 8 + 1 + 1 + 1) % 8 = 3 := by omega
    have h4 : (n * 8 + 1 + 1 + 1 + 1) % 8 = 4 := by omega
    have h5 : (n * 8 + 1 + 1 + 1 + 1 + 1) % 8 = 5 := by omega
    have h6 : (n * 8 + 1 + 1 + 1 + 1 + 1 + 1) % 8 = 6 := by omega
    have h7 : (n * 8 + 1 + 1 + 1 + 1 + 1 + 1 + 1) % 8 = 7 := by omega
    simp only [List.map_cons, List.map_nil, h0, h1, h2, h3, h4, h5, h6, h7]
    rfl
theorem flatS_drop (m : List S) (j : Nat) : (flatS m).drop (j * 8) = flatS (m.drop j) := by
  rcases Nat.lt_or_ge m.length j with h | h
  · rw [List.drop_of_length_le (by rw [flatS_len]; omega), List.drop_of_length_le (by omega)]
    rfl
  · have e : flatS m = flatS (m.take j) ++ flatS (m.drop j) := by rw [← flatS_app, List.take_append_drop]
    rw [e, List.drop_append, flatS_len, List.length_take, Nat.min_eq_left h, Nat.sub_self, List.drop_zero, List.drop_of_length_le (by rw [flatS_len, List.length_take]; omega), List.nil_append]
theorem own_wholeS {w : World} {g base n : Nat} {m : List S} (hn : m.length = n) (h : w.heap[g]? = some (.cells (flatS m).toArray 89 (0, 0))) (hb : base ≤ g) (hl : n ≤ 1000000) : w.ownsRow base 89 8 (.slice (some ⟨g, 0, none⟩) n n) n (flatS m) :=
  ⟨by rw [flatS_len, hn], Or.inr ⟨g, n, _, rfl, hb, h, Nat.le_refl _, by unfold maxLen; omega, by simp [flatS_len, hn], by
    show (flatS m).take (n * 8) = flatS m
    rw [List.take_of_length_le (by rw [flatS_len, hn]; exact Nat.le_refl _)]⟩⟩
def UnF (w : World) (r : List S) (en : Ending) (w' : World) : Prop :=
  ∃ S2 c2, en = .returned (.slice S2 r.length c2) ∧ Grew w w' ∧ w'.ownsRow w.heap.size 89 8 (.slice S2 r.length c2) r.length (flatS r)
def UnAt (w : World) (n : Nat) (a b : List S) (i : Value) (wr : World) : Prop :=
  ∃ j : Nat, j ≤ b.length ∧ i = .int .i64 j ∧ Grew w wr ∧ wr.ownsRow w.heap.size 89 8 (.slice (some ⟨w.heap.size, 0, none⟩) n n) n (flatS (uniJ a b j))
set_option maxHeartbeats 8000000 in
set_option maxRecDepth 100000 in
theorem suni_any (ma mb : Nat) (a b : List S) (hma : ma ≤ 100000) (hmb : mb ≤ 100000) (ha : ∀ s ∈ a, FewN ma s) (hb : ∀ s ∈ b, FewN mb s) (hla : a.length ≤ 1000) (hlb : b.length ≤ 1000) (A B : Option Addr) (c d : Nat) (w : World) (ra : Row w A (flatS a)) (rb : Row w B (flatS b)) :
    Calls Tryd.prog 69 #[.slice A a.length c, .slice B b.length d] w (UnF w (uniJ a b b.length)) := by
  have RA := Lib.hid ra
  have RB := Lib.hid rb
  obtain ⟨n, hn⟩ : ∃ n, max a.length b.length = n := ⟨_, rfl⟩
  have hmx : max (a.length : Int) (b.length : Int) = (n : Int) := by omega
  have hn1 : n ≤ 1000 := by omega
  have HLu : Hid (∀ j, (uniJ a b j).length = n) := Lib.hid fun j => by rw [uniJ_len, hn]
  have HGd := Lib.hid (uniJ_getD a b)
  have HFa := Lib.hid (few_getD ha)
  have HFb := Lib.hid (few_getD hb)
  have HSt : Hid (∀ j, uniJ a b (j + 1) = (uniJ a b j).set j (unionS ((uniJ a b j).getD j zeroS) (b.getD j zeroS))) := Lib.hid fun j => rfl
  have HNn := Lib.hid hn
  have HAl := Lib.hid (flatS_len a)
  have HA1 := Lib.hid (flatS_one a)
  have hal : a.length ≤ n := by omega
  have H0 : Hid (splice (flatS (List.replicate n zeroS)) 0 (flatS a) = flatS (uniJ a b 0)) := Lib.hid (by
    unfold splice
    rw [List.take_zero, List.nil_append, Nat.zero_add, flatS_len, flatS_drop, List.drop_replicate, ← flatS_app]
    show flatS (a ++ List.replicate (n - a.length) zeroS) = flatS (a ++ List.replicate (max a.length b.length - a.length) zeroS)
    rw [hn])
  obtain ⟨w2, hcr, hh2, hb2⟩ := run_copy_into (P := Tryd.prog) (T := 47) (ty := 3) (size := 8) (o := 0) (dLen := n) (dCap := n) (sCap := c) (sLen := a.length) (sp := A) (dp := some ⟨w.heap.size, 0, none⟩) (w := w.alloc (.cells (flatS (List.replicate n zeroS)).toArray 89)) Tryd.underlying47 (by kernel_rfl) (heap_alloc_new w _) HAl.out (by omega) (fun _ => rfl) (RA.out.grew ((Grew.refl w).alloc _)) (by rw [flatS_len, List.length_replicate]; omega) HA1.out (by decide) ((Below.refl _ w).alloc (Nat.le_refl _) _) (Nat.le_refl _)
  rw [H0.out] at hh2
  have HO2 := Lib.hid (own_wholeS (base := w.heap.size) (HLu.out 0) hh2 (Nat.le_refl _) (by omega))
  have HG2 := Lib.hid (Grew.of_below hb2)
  clear ra rb ha hb hn hh2 hb2 HAl HA1 RA H0
  go_enter Tryd.func69, Tryd.ntmps69
  go_wp2_with (at_make; refine wpList_make_rows _ rfl _ _ 47 rfl 89 (.agg #[.int .i64 0, .int .i64 0, .string ⟨#[]⟩, .int .i64 0, .int .i64 0, .string ⟨#[]⟩, .int .i64 0, .int .i64 0]) #[.int .i64 0, .int .i64 0, .string ⟨#[]⟩, .int .i64 0, .int .i64 0, .string ⟨#[]⟩, .int .i64 0, .int .i64 0] 8 80 Tryd.underlying47 infoSp rfl _ _ n rfl rfl (by omega) (by omega) ?_; rw [made_flatS])
  go_loopw [19] (fun i wr => UnAt w n a b i wr) (fun i _ => b.length - (intOf i).toNat)
  case atStart => exact ⟨0, Nat.zero_le _, rfl, HG2.out, HO2.out⟩
  case round =>
    obtain ⟨j, hj, rfl, hg, ho⟩ := hrel
    have HG := Lib.hid hg
    have HO := Lib.hid ho
    clear hg ho HO2 HG2 hcr
    by_cases h : j < b.length
    · have hji : (j : Int) < (b.length : Int) := by omega
      have e0 : decide ((j : Int) < (b.length : Int)) = true := decide_eq_true hji
      obtain ⟨pb, po, rfl, hpb, d0, d1, d2, d3, d4, d5, d6, d7⟩ := spans_at (RB.out.grew HG.out) h
      have hjl : j < (uniJ a b j).length := by rw [HLu.out]; omega
      have hgj : (uniJ a b j)[j] = a.getD j zeroS := by
        have h1 := HGd.out j hj j
        rw [if_neg (Nat.lt_irrefl j), List.getD_eq_getElem?_getD, List.getElem?_eq_getElem hjl, Option.getD_some] at h1
        exact h1
      have hbj : b.getD j zeroS = b[j] := by rw [List.getD_eq_getElem?_getD, List.getElem?_eq_getElem h, Option.getD_some]
      have hS2 := HSt.out j
      rw [List.getD_eq_getElem?_getD, List.getElem?_eq_getElem hjl, Option.getD_some, hbj] at hS2
      have hF1 := HFa.out j
      rw [← hgj] at hF1
      have hF2 := HFb.out j
      rw [hbj] at hF2
      have HSt2 := Lib.hid hS2
      have HLj := Lib.hid (HLu.out j)
      have hjn : j < n := by omega
      have hjni : (j : Int) < (n : Int) := by omega
      clear hS2 HSt HGd HFa HFb hgj hbj HLu HNn
      generalize uniJ a b j = cur at *
      generalize b[j] = sb at *
      obtain ⟨⟨blk, bli, bls⟩, ⟨bhk, bhi, bhs⟩, bwh, bnu⟩ := sb
      simp only at d0 d1 d2 d3 d4 d5 d6 d7
      obtain ⟨w3, hw3⟩ : ∃ w3, wr.alloc (.cells #[.int .i64 blk, .int .i64 bli, .string bls, .int .i64 bhk, .int .i64 bhi, .string bhs, .int .i64 bwh, .int .i64 bnu] 89) = w3 := ⟨_, rfl⟩
      have HB3 : Hid (Blok w3 wr.heap.size 89 #[.int .i64 blk, .int .i64 bli, .string bls, .int .i64 bhk, .int .i64 bhi, .string bhs, .int .i64 bwh, .int .i64 bnu]) := Lib.hid (by rw [← hw3]; exact Blok.new _ _ _ _ rfl)
      have hg3 : Grew wr w3 := by rw [← hw3]; exact (Grew.refl wr).alloc _
      have HO3 := Lib.hid (own_thus' HO.out hg3)
      have HG3 := Lib.hid (HG.out.trans hg3)
      have Hw3 := Lib.hid hw3
      clear hg3 hw3 HO HG
      obtain ⟨gv, hgv⟩ : ∃ gv, wr.heap.size = gv := ⟨_, rfl⟩
      rw [hgv] at HB3
      have HGv := Lib.hid hgv
      clear hgv
      obtain ⟨g, hgg⟩ : ∃ g, w.heap.size = g := ⟨_, rfl⟩
      rw [hgg] at HO3 ⊢
      have HGg := Lib.hid hgg
      clear hgg
      obtain ⟨r, hr⟩ : ∃ r, unionS cur[j] ⟨⟨blk, bli, bls⟩, ⟨bhk, bhi, bhs⟩, bwh, bnu⟩ = r := ⟨_, rfl⟩
      rw [hr] at HSt2
      have HUn : Hid (∀ W, Gives Tryd.prog 89 #[sa cur[j], sa ⟨⟨blk, bli, bls⟩, ⟨bhk, bhi, bhs⟩, bwh, bnu⟩] W (sa r)) := Lib.hid fun W => by
        rw [← hr]
        exact union_val _ _ (fewN_few hF1 (by omega)) (fewN_few hF2 (by omega)) W
      clear hr hF1 hF2
      go_upto_region 6 with fail
      rw [Hw3.out, HGv.out]
      clear Hw3 HGv d0 d1 d2 d3 d4 d5 d6 d7 hpb
      have HCs : Hid (∀ W, Grew w3 W → W.cell? ⟨g, j * 8, none⟩ = some (.int .i64 cur[j].low.k) ∧ W.cell? ⟨g, j * 8 + 1, none⟩ = some (.int .i64 cur[j].low.i) ∧ W.cell? ⟨g, j * 8 + 2, none⟩ = some (.string cur[j].low.s) ∧ W.cell? ⟨g, j * 8 + 3, none⟩ = some (.int .i64 cur[j].high.k) ∧ W.cell? ⟨g, j * 8 + 4, none⟩ = some (.int .i64 cur[j].high.i) ∧ W.cell? ⟨g, j * 8 + 5, none⟩ = some (.string cur[j].high.s) ∧ W.cell? ⟨g, j * 8 + 6, none⟩ = some (.int .i64 cur[j].whole) ∧ W.cell? ⟨g, j * 8 + 7, none⟩ = some (.int .i64 cur[j].nulls)) := Lib.hid fun W hW => by
        have ho := own_thus' HO3.out hW
        have hx : ∀ i u, i < 8 → (scL cur[j])[i]? = some u → W.cell? ⟨g, j * 8 + i, none⟩ = some u := fun i u hi hu => by
          rw [ho.cellAt (j * 8 + i) (by omega)]
          exact flatS_at hjl i u hu
        exact ⟨hx 0 _ (by omega) rfl, hx 1 _ (by omega) rfl, hx 2 _ (by omega) rfl, hx 3 _ (by omega) rfl, hx 4 _ (by omega) rfl, hx 5 _ (by omega) rfl, hx 6 _ (by omega) rfl, hx 7 _ (by omega) rfl⟩
      have HCz : Hid (∀ W, Grew w3 W → g < W.heap.size ∧ ∀ i, W.frozen? ⟨g, i, none⟩ = false) := Lib.hid fun W hW => ⟨own_lt (own_thus' HO3.out hW) g rfl, fun i => (own_thus' HO3.out hW).frozenAt i⟩
      have HCv : Hid (∀ W, Grew w3 W → gv < W.heap.size ∧ W.cell? ⟨gv, 0, none⟩ = some (.int .i64 blk) ∧ W.cell? ⟨gv, 1, none⟩ = some (.int .i64 bli) ∧ W.cell? ⟨gv, 2, none⟩ = some (.string bls) ∧ W.cell? ⟨gv, 3, none⟩ = some (.int .i64 bhk) ∧ W.cell? ⟨gv, 4, none⟩ = some (.int .i64 bhi) ∧ W.cell? ⟨gv, 5, none⟩ = some (.string bhs) ∧ W.cell? ⟨gv, 6, none⟩ = some (.int .i64 bwh) ∧ W.cell? ⟨gv, 7, none⟩ = some (.int .i64 bnu)) := Lib.hid fun W hW => ⟨(HB3.out.grew hW).lt, (HB3.out.grew hW).cell 0, (HB3.out.grew hW).cell 1, (HB3.out.grew hW).cell 2, (HB3.out.grew hW).cell 3, (HB3.out.grew hW).cell 4, (HB3.out.grew hW).cell 5, (HB3.out.grew hW).cell 6, (HB3.out.grew hW).cell 7⟩
      generalize cur[j] = s0 at *
      obtain ⟨⟨lk, li, ls⟩, ⟨hk, hi, hs⟩, wh, nu⟩ := s0
      obtain ⟨⟨rlk, rli, rls⟩, ⟨rhk, rhi, rhs⟩, rwh, rnu⟩ := r
      simp only [sa] at HCs HUn
      refine wp_region_last (fun W => Grew w3 W) 9 rfl (by kernel_rfl) ?_
      refine last_take 0 (v := ?_) rfl (by kernel_rfl) (by kernel_rfl) (by kernel_rfl) (by kernel_rfl) (fun _ _ _ h => h) (by rfl) ?_ (Grew.refl w3).drew ?_
      rotate_left
      · (intro W hW; go_simp; with_reducible rfl)
      refine last_take 1 (v := ?_) rfl (by kernel_rfl) (by kernel_rfl) (by kernel_rfl) (by kernel_rfl) (fun _ _ _ h => h) (by rfl) ?_ (Grew.refl w3).drew ?_
      rotate_left
      · (intro W hW; go_simp; with_reducible rfl)
      refine last_take 2 (v := ?_) rfl (by kernel_rfl) (by kernel_rfl) (by kernel_rfl) (by kernel_rfl) (fun _ _ _ h => h) (by rfl) ?_ (Grew.refl w3).drew ?_
      rotate_left
      · (intro W hW; go_simp; with_reducible rfl)
      refine last_take 3 (v := ?_) rfl (by kernel_rfl) (by kernel_rfl) (by kernel_rfl) (by kernel_rfl) (fun _ _ _ h => h) (by rfl) ?_ (Grew.refl w3).drew ?_
      rotate_left
      · (intro W hW; go_simp; with_reducible rfl)
      refine last_norm (a' := ?_) ?_ ?_
      rotate_left
      · (go_simp; with_reducible rfl)
      refine last_take 4 (v := ?_) rfl (by kernel_rfl) (by kernel_rfl) (by kernel_rfl) (by kernel_rfl) (fun _ _ _ h => h) (by rfl) ?_ (Grew.refl w3).drew ?_
      rotate_left
      · (intro W hW; go_simp; with_reducible rfl)
      refine last_norm (a' := ?_) ?_ ?_
      rotate_left
      · (go_simp; with_reducible rfl)
      refine last_take 5 (v := ?_) rfl (by kernel_rfl) (by kernel_rfl) (by kernel_rfl) (by kernel_rfl) (fun _ _ _ h => h) (by rfl) ?_ (Grew.refl w3).drew ?_
      rotate_left
      · (intro W hW; obtain ⟨c0, c1, c2, c3, c4, c5, c6, c7⟩ := HCs.out W hW; have hgl := (HCz.out W hW).1; go_simp; with_reducible rfl)
      refine last_norm (a' := ?_) ?_ ?_
      rotate_left
      · (go_simp; with_reducible rfl)
      refine last_take 6 (v := ?_) rfl (by kernel_rfl) (by kernel_rfl) (by kernel_rfl) (by kernel_rfl) (fun _ _ _ h => h) (by rfl) ?_ (Grew.refl w3).drew ?_
      rotate_left
      · (intro W hW; obtain ⟨h0, c0, c1, c2, c3, c4, c5, c6, c7⟩ := HCv.out W hW; go_simp; with_reducible rfl)
      refine last_norm (a' := ?_) ?_ ?_
      rotate_left
      · (go_simp; with_reducible rfl)
      refine last_call 7 (by kernel_rfl) (by kernel_rfl) rfl (by rfl) (fun K hK => ?_)
      go_simp
      go_wp2_with (go_at_call 89; refine (HUn.out _).grows.mono ?_; rintro e w6 ⟨rfl, hg6⟩; have HG6 := Lib.hid (show Grew w3 w6 from ((Grew.refl w3).drew).trans hg6); clear hg6)
      refine hK.out _ _ HG6.out ?_
      clear hK K
      refine last_take 8 (v := ?_) rfl (by kernel_rfl) (by kernel_rfl) (by kernel_rfl) (by kernel_rfl) (fun _ _ _ h => h) (by rfl) ?_ HG6.out ?_
      rotate_left
      · (intro W hW; go_simp; with_reducible rfl)
      refine last_norm (a' := ?_) ?_ ?_
      rotate_left
      · (go_simp; with_reducible rfl)
      obtain ⟨c0, c1, c2, c3, c4, c5, c6, c7⟩ := HCs.out w6 HG6.out
      obtain ⟨hgl, hfz⟩ := HCz.out w6 HG6.out
      have z0 := hfz (j * 8)
      have z1 := hfz (j * 8 + 1)
      have z2 := hfz (j * 8 + 2)
      have z3 := hfz (j * 8 + 3)
      have z4 := hfz (j * 8 + 4)
      have z5 := hfz (j * 8 + 5)
      have z6 := hfz (j * 8 + 6)
      have z7 := hfz (j * 8 + 7)
      clear hfz HCs HCz HCv HUn
      have HO6 := Lib.hid (put8_own (own_thus' HO3.out HG6.out) hjl ⟨⟨rlk, rli, rls⟩, ⟨rhk, rhi, rhs⟩, rwh, rnu⟩)
      have HG7 := Lib.hid (put8_grew (p := j * 8) (g := g) (HG3.out.trans HG6.out) (by rw [HGg.out]; exact Nat.le_refl _) ⟨⟨rlk, rli, rls⟩, ⟨rhk, rhi, rhs⟩, rwh, rnu⟩)
      have HX : Hid (UnAt w n a b (.int .i64 ((j : Int) + 1)) (put8 w6 g (j * 8) ⟨⟨rlk, rli, rls⟩, ⟨rhk, rhi, rhs⟩, rwh, rnu⟩)) := Lib.hid (by
        refine ⟨j + 1, by omega, by go_num, HG7.out, ?_⟩
        rw [HSt2.out, HGg.out]
        exact HO6.out)
      clear HO6 HG7 HSt2 hjl HO3 HG3 HB3 HGg HLj
      unfold put8 at HX
      simp only at HX
      refine last_last (by kernel_rfl) (by kernel_rfl) rfl (by rfl) (fun K hK => ?_)
      go_simp
      go_wp2_with fail
      refine hK.out _ _ ?_
      clear hK K
      go_wp2
      exact ⟨HX.out, by simp only [intOf]; omega⟩
    · obtain rfl : j = b.length := by omega
      have e0 : decide ((b.length : Int) < (b.length : Int)) = false := decide_eq_false (by omega)
      have HX : Hid (UnF w (uniJ a b b.length) (.returned (.slice (some ⟨w.heap.size, 0, none⟩) n n)) wr) := Lib.hid ⟨some ⟨w.heap.size, 0, none⟩, n, by rw [HLu.out], HG.out, by rw [HLu.out]; exact HO.out⟩
      clear HO HGd HSt HFa HFb HLu
      go_wp2
      go_ret
      exact HX.out
end Go.Proofs.YtklhledcnijchaaDoor

/- Layer 18: the union of two filters of one shape. Condition: as many words as there may be. -/
namespace Go.Proofs.YtklhledcnijchaaDoor
open Go.RowKit
attribute [local go_sem] more_cell more_frozen more_more more_setCell more_of_drew more_of_drewN lt_more le_more past_cell past_cell2 past_frozen past_frozen2 past_setCell past_setCell2 mid_cell mid_frozen mid_setCell
attribute [local go_sem ↓] Go.wp_at_zero Go.wp_at_succ

def UnionF (w : World) (ws : List Nat) (n k : Nat) (e : Ending) (w' : World) : Prop := ∃ g c, e = .returned (.tuple #[.agg #[.slice (some ⟨g, 0, none⟩) n c, .int .i64 k], .int .i64 0]) ∧ (∃ x, w' = more w x) ∧ URow w' (some ⟨g, 0, none⟩) ws
def ClonedF (w : World) (ws : List Nat) (n : Nat) (e : Ending) (w' : World) : Prop := ∃ g c, e = .returned (.slice (some ⟨g, 0, none⟩) n c) ∧ w'.ownsRow w.heap.size 84 1 (.slice (some ⟨g, 0, none⟩) n c) n (uV ws) ∧ ∃ x, w' = more w x
theorem uclone_to (l : List Nat) (b n c : Nat) (hn : l.length = n) (h0 : 0 < n) (hl : n ≤ 1000000) (w : World) (hr : URow w (some ⟨b, 0, none⟩) l) : Calls Tryd.prog 88 #[.slice (some ⟨b, 0, none⟩) n c] w (ClonedF w l n) := by
  subst hn
  exact uclone_any l b 0 _ c rfl h0 hl w hr
/-- While words are joined. -/
structure UniAt (w : World) (T : TypeId) (g6 g2 c2 gb d n k : Nat) (ws vs : List Nat) (j : Nat) (wr : World) : Prop where
  own : wr.ownsRow (w.heap.size + 3) 84 1 (.slice (some ⟨g2, 0, none⟩) n c2) n (uV (unionT ws vs j))
  out : Blok wr g6 T #[.slice (some ⟨g2, 0, none⟩) n c2, .int .i64 k]
  box : Blok wr (w.heap.size + 1) T #[.slice (some ⟨gb, 0, none⟩) n d, .int .i64 k]
  res : Blok wr (w.heap.size + 2) T #[.slice none 0 0, .int .i64 0]
  grew : Grew w wr
def UniRel (w : World) (T : TypeId) (g6 g2 c2 gb d n k : Nat) (ws vs : List Nat) (i : Value) (wr : World) : Prop := ∃ j : Nat, j ≤ n ∧ i = .int .i64 j ∧ UniAt w T g6 g2 c2 gb d n k ws vs j wr
theorem own_swap {u : World} {o o' : Obj} {x : Xs} {base : Nat} {e : TypeId} {v : Value} {n : Nat} {xs : List Value} (h : (more (u.alloc o) x).ownsRow base e 1 v n xs) (hb : u.heap.size + 1 ≤ base) : (more (u.alloc o') x).ownsRow base e 1 v n xs := by
  obtain ⟨h1, h2⟩ := h
  refine ⟨h1, ?_⟩
  rcases h2 with h2 | ⟨g, cap, cur, hv, hg, hh, hr⟩
  · exact Or.inl h2
  · refine Or.inr ⟨g, cap, cur, hv, hg, ?_, hr⟩
    rw [← hh]
    simp only [more, World.alloc]
    rw [Array.getElem?_append_right (by simp; omega), Array.getElem?_append_right (by simp; omega)]
    simp
theorem own_here {w : World} {base : Nat} {e : TypeId} {n c : Nat} {g : Nat} {xs : List Value} (h : w.ownsRow base e 1 (.slice (some ⟨g, 0, none⟩) n c) n xs) : base ≤ g ∧ g < w.heap.size := ⟨own_base h g rfl, own_lt h g rfl⟩
set_option maxHeartbeats 4000000 in
set_option maxRecDepth 100000 in
theorem union_any (ws vs : List Nat) (n k ga c gb d : Nat) (hn : ws.length = n) (hm : vs.length = n) (h0 : 0 < n) (hl : n ≤ 1000000) (hw : wordsOk ws) (hv : wordsOk vs) (w : World) (ra : URow w (some ⟨ga, 0, none⟩) ws) (rb : URow w (some ⟨gb, 0, none⟩) vs) :
    Calls Tryd.prog 68 #[.agg #[.slice (some ⟨ga, 0, none⟩) n c, .int .i64 k], .agg #[.slice (some ⟨gb, 0, none⟩) n d, .int .i64 k]] w (UnionF w (unionW ws vs) n k) := by
  have RA := Lib.hid ra
  have RB := Lib.hid rb
  have HW := Lib.hid hw
  have HV := Lib.hid hv
  have HN := Lib.hid hn
  have HM := Lib.hid hm
  have HC : Hid (∀ W, Grew w W → Calls Tryd.prog 88 #[.slice (some ⟨ga, 0, none⟩) n c] W (ClonedF W ws n)) := Lib.hid fun W hW => uclone_to ws ga n c hn h0 hl W (ra.grew hW)
  clear ra rb hw hv hn hm
  have e1 : ((n : Int) != (n : Int)) = false := by simp
  have e2 : ((k : Int) != (k : Int)) = false := by simp
  go_enter Tryd.func68, Tryd.ntmps68
  go_upto_region 3 with fail
  go_cut [6] (fun p wx => ∃ g6 g2 c2, p = .pointer (some ⟨g6, 0, none⟩) ∧ g6 ≠ g2 ∧ w.heap.size + 3 ≤ g6 ∧ w.heap.size + 3 ≤ g2 ∧ UniAt w 45 g6 g2 c2 gb d n k ws vs 0 wx)
  case first =>
    have hS : ∀ W, Grew (((w.alloc (.cells #[.slice (some ⟨ga, 0, none⟩) n c, .int .i64 k] 45)).alloc (.cells #[.slice (some ⟨gb, 0, none⟩) n d, .int .i64 k] 45)).alloc (.cells #[.slice none 0 0, .int .i64 0] 45)) W → W.cell? ⟨w.heap.size, 0, none⟩ = some (.slice (some ⟨ga, 0, none⟩) n c) ∧ W.cell? ⟨w.heap.size, 1, none⟩ = some (.int .i64 k) := fun W hW => by
      have hB := (((Blok.new w 45 #[.slice (some ⟨ga, 0, none⟩) n c, .int .i64 k] _ rfl).alloc (.cells #[.slice (some ⟨gb, 0, none⟩) n d, .int .i64 k] 45)).alloc (.cells #[.slice none 0 0, .int .i64 0] 45)).grew hW
      exact ⟨hB.cell 0, hB.cell 1⟩
    have HS := Lib.hid hS
    clear hS
    go_region_held3 (fun W => W.cell? ⟨w.heap.size, 0, none⟩ = some (.slice (some ⟨ga, 0, none⟩) n c) ∧ W.cell? ⟨w.heap.size, 1, none⟩ = some (.int .i64 k)) (first | go_keep | (refine HS.out _ ?_; repeat (first | exact Grew.refl _ | apply Grew.more | apply Grew.alloc | apply Grew.drew)))
      (first | (go_at_call 88; (with_reducible refine (HC.out _ (by repeat (first | exact Grew.refl _ | apply Grew.more | apply Grew.alloc | apply Grew.drew))).mono ?_); rintro e w' ⟨g2, c2, rfl, ho, ⟨x2, rfl⟩⟩; have HO := Lib.hid ho; clear ho))
    all_goals
      go_wp2_with fail
      go_meet
    · have h1 := own_here HO.out
      have h2 : w.heap.size + 3 ≤ g2 := by have := h1.1; simpa using this
      have h3 : g2 < (more (((w.alloc (.cells #[.slice (some ⟨ga, 0, none⟩) n c, .int .i64 k] 45)).alloc (.cells #[.slice (some ⟨gb, 0, none⟩) n d, .int .i64 k] 45)).alloc (.cells #[.slice none 0 0, .int .i64 0] 45)) x2).heap.size := h1.2
      refine ⟨_, g2, c2, rfl, by omega, by rw [more_size]; simp, h2, ?_, Blok.new _ _ _ _ rfl, ?_, ?_, by (show Grew _ _; repeat (first | exact Grew.refl _ | refine Grew.alloc ?_ _ | refine Grew.drew ?_ | refine Grew.more ?_ _))⟩
      · rw [unionT_zero]
        exact own_alloc (own_le HO.out (by simp)) _
      · exact ((((Blok.new _ _ _ _ (by simp)).alloc _).more x2).alloc _)
      · exact (((Blok.new _ _ _ _ (by simp)).more x2).alloc _)
    · have h1 := own_here HO.out
      have h2 : w.heap.size + 4 ≤ g2 := by have := h1.1; simpa using this
      refine ⟨_, g2, c2, rfl, by omega, by omega, by omega, ?_, (Blok.new _ _ _ _ (by simp)).more x2, ?_, ?_, by (show Grew _ _; repeat (first | exact Grew.refl _ | refine Grew.alloc ?_ _ | refine Grew.drew ?_ | refine Grew.more ?_ _))⟩
      · rw [unionT_zero]
        exact own_le (own_swap (x := x2) HO.out (by simp)) (by simp)
      · exact ((((Blok.new _ _ _ _ (by simp)).alloc _).alloc _).more x2)
      · exact (((Blok.new _ _ _ _ (by simp)).alloc _).more x2)
  case rest =>
    obtain ⟨g6, g2, c2, rfl, hne, hg6, hg2, hu⟩ := hcut
    have HU := Lib.hid hu
    have cb0 : wc.cell? ⟨w.heap.size + 1, 0, none⟩ = some (.slice (some ⟨gb, 0, none⟩) n d) := hu.box.cell 0
    have hlb := hu.box.lt
    clear hu HC
    go_wp2
    go_loopw [33] (fun i wr => UniRel w 45 g6 g2 c2 gb d n k ws vs i wr) (fun i _ => n - (intOf i).toNat)
    case atStart => exact ⟨0, Nat.zero_le _, rfl, HU.out⟩
    case round =>
      obtain ⟨j, hj, rfl, hu⟩ := hrel
      clear HU cb0 hlb
      by_cases h : j < n
      · have hwl := HN.out
        have hvl := HM.out
        have c60 : wr.cell? ⟨g6, 0, none⟩ = some (.slice (some ⟨g2, 0, none⟩) n c2) := hu.out.cell 0
        have hl6 := hu.out.lt
        have e0 := hu.own.cellAt j (by omega)
        have e3 : (uV (unionT ws vs j))[j]? = some (.int .u64 ((ws.getD j 0 : Nat) : Int)) := by
          unfold uV
          rw [List.getElem?_map, unionT_get ws vs j j (by omega), if_neg (by omega)]
          rfl
        rw [e3] at e0
        have z0 := hu.own.frozenAt j
        have hgl := (own_here hu.own).2
        have hj2 : j < vs.length := by omega
        obtain ⟨hbl, d0⟩ := urow_cell (RB.out.grew hu.grew) hj2 rfl
        have hvj : vs[j] = vs.getD j 0 := by rw [List.getD_eq_getElem?_getD, List.getElem?_eq_getElem hj2]; rfl
        rw [hvj, Nat.zero_add] at d0
        have hx := getD_lt HW.out j
        have hy := getD_lt HV.out j
        have HS := Lib.hid (unionT_set ws vs j (by omega))
        generalize ws.getD j 0 = x at *
        generalize vs.getD j 0 = y at *
        have eor : bits .or .u64 (x : Int) (y : Int) = ((x ||| y : Nat) : Int) := u64_or_nat x y hx hy
        generalize x ||| y = v at *
        have hs := (hu.own.stored j (.int .u64 (v : Int))).1
        rw [uV_set, HS.out] at hs
        have HA : Hid (UniAt w 45 g6 g2 c2 gb d n k ws vs (j + 1) (wr.setCell ⟨g2, j, none⟩ (.int .u64 (v : Int)))) := Lib.hid ⟨hs, hu.out.far (p := ⟨g2, j, none⟩) hne _, hu.box.far (p := ⟨g2, j, none⟩) (by show w.heap.size + 1 ≠ g2; omega) _, hu.res.far (p := ⟨g2, j, none⟩) (by show w.heap.size + 2 ≠ g2; omega) _, hu.grew.setCell (a := ⟨g2, j, none⟩) (by show w.heap.size ≤ g2; omega) _⟩
        clear hu hs e3 hvj hwl hvl hj2 hx hy
        go_wp2
        refine ⟨⟨j + 1, by omega, by go_num, HA.out⟩, by simp only [intOf]; omega⟩
      · obtain rfl : j = n := by omega
        have c60 : wr.cell? ⟨g6, 0, none⟩ = some (.slice (some ⟨g2, 0, none⟩) j c2) := hu.out.cell 0
        have c61 : wr.cell? ⟨g6, 1, none⟩ = some (.int .i64 k) := hu.out.cell 1
        have hl6 := hu.out.lt
        have hl4 := hu.res.lt
        have c40 : wr.cell? ⟨w.heap.size + 2, 0, none⟩ = some (.slice none 0 0) := hu.res.cell 0
        have c41 : wr.cell? ⟨w.heap.size + 2, 1, none⟩ = some (.int .i64 0) := hu.res.cell 1
        have z40 := hu.res.thaw 0
        have z41 := hu.res.thaw 1
        have hB := (hu.res.set 0 (.slice (some ⟨g2, 0, none⟩) j c2)).set 1 (.int .i64 k)
        have r0 : ((wr.setCell ⟨w.heap.size + 2, 0, none⟩ (.slice (some ⟨g2, 0, none⟩) j c2)).setCell ⟨w.heap.size + 2, 1, none⟩ (.int .i64 k)).cell? ⟨w.heap.size + 2, 0, none⟩ = some (.slice (some ⟨g2, 0, none⟩) j c2) := hB.cell 0
        have r1 : ((wr.setCell ⟨w.heap.size + 2, 0, none⟩ (.slice (some ⟨g2, 0, none⟩) j c2)).setCell ⟨w.heap.size + 2, 1, none⟩ (.int .i64 k)).cell? ⟨w.heap.size + 2, 1, none⟩ = some (.int .i64 k) := hB.cell 1
        have HO2 := Lib.hid (own_far (own_far hu.own (p := ⟨w.heap.size + 2, 0, none⟩) (by show w.heap.size + 2 < w.heap.size + 3; omega) (.slice (some ⟨g2, 0, none⟩) j c2)) (p := ⟨w.heap.size + 2, 1, none⟩) (by show w.heap.size + 2 < w.heap.size + 3; omega) (.int .i64 k))
        have HG2 := Lib.hid ((hu.grew.setCell (a := ⟨w.heap.size + 2, 0, none⟩) (by show w.heap.size ≤ w.heap.size + 2; omega) (.slice (some ⟨g2, 0, none⟩) j c2)).setCell (a := ⟨w.heap.size + 2, 1, none⟩) (by show w.heap.size ≤ w.heap.size + 2; omega) (.int .i64 k))
        clear hu hB
        go_wp2
        refine bodyPost_ret (v := .tuple #[.agg #[.slice (some ⟨g2, 0, none⟩) j c2, .int .i64 k], .int .i64 0]) (by simp [results, Tryd.results68, go_sem, r0, r1]) rfl ⟨g2, c2, rfl, HG2.out, ?_⟩
        have h5 := urow_own HO2.out
        unfold unionW
        rw [HN.out]
        exact h5
end Go.Proofs.YtklhledcnijchaaDoor

/- A region that draws its order, whose first operations are walked in one order under a condition on the world, the others in every order. No condition. -/
namespace Go.Proofs.YtklhledcnijchaaDoor
open Go.RowKit
section
variable {P : Program} {ops : Array Oper} {Q : Exit → Act → World → Prop} {S : World → Prop}
/-- The tail, in whatever order. -/
def TailT (P : Program) (ops : Array Oper) (Q : Exit → Act → World → Prop) (n g : Nat) (listed : Array Bool) (a : Act) (w : World) : Prop :=
  (∀ j ∈ Region.ready .any ops listed, n ≤ j) ∧ wpAny P .any ops Q g listed a w
theorem wp_region_tail (S : World → Prop) (n g : Nat) {id : Nat} {a : Act} {w : World} (hk : ops.size = n + g) (hm : P.follows .mixedOrders = true)
    (h : wpHeadH P .any ops Q S n (TailT P ops Q n g) n (Array.replicate ops.size false) a w.drew) : (Code.region id ops true).wp P Q a w := by
  refine wp_region_any hm ?_
  rw [hk]
  exact wpAny_of_wpHeadH (S := S) (n := n) (T := TailT P ops Q n g) (fun listed a w h => h.2) n _ a _ (by rw [hk] at h; exact h)
/-- Each operation of the tail waits for each one ahead of it. -/
def directB (ops : Array Oper) (n : Nat) : Bool := (List.range ops.size).all fun j => decide (j < n) || match ops[j]? with
  | none => true
  | some oj => (List.range n).all fun i => oj.after.any fun e => Region.binds .any e && e.on == i
theorem direct_waits {n i : Nat} {listed : Array Bool} (hd : directB ops n = true) (hin : i < n) (hun : listed.getD i true = false) (j : Nat) (hj : n ≤ j) : j ∉ Region.ready .any ops listed := by
  intro hm
  obtain ⟨_, oj, hoj, hall⟩ := mem_ready.1 hm
  have hjs : j < ops.size := (Array.getElem?_eq_some_iff.1 hoj).1
  unfold directB at hd
  have h1 := List.all_eq_true.1 hd j (List.mem_range.2 hjs)
  rw [hoj] at h1
  simp only [Bool.or_eq_true, decide_eq_true_eq] at h1
  rcases h1 with h1 | h1
  · omega
  · have h2 := List.all_eq_true.1 h1 i (List.mem_range.2 hin)
    obtain ⟨e, he, h3⟩ := Array.any_eq_true'.1 h2
    simp only [Bool.and_eq_true, beq_iff_eq] at h3
    have h4 := hall e he h3.1
    rw [h3.2, getD_both hun] at h4
    cases h4
theorem wpHeadD_first {T : Array Bool → Act → World → Prop} {n i : Nat} {oi : Oper} {v : Value} (hi : ops[i]? = some oi) (hsel : ∀ (j : Nat) (o : Oper) cs b, ops[j]? = some o → o.op ≠ .select cs b)
    (hd : directB ops n = true) (hin : i < n) (hQ : ∀ c a w, Q (.panic c) (a.put oi.dst v) w → Q (.panic c) a w) (hdone : ∀ listed a w, T listed a w → ∀ j ∈ Region.ready .any ops listed, n ≤ j) :
    ∀ (f : Nat) (listed : Array Bool) (a : Act) (w : World),
      (∀ j oj, ops[j]? = some oj → j ≠ i → listed.getD j true = false → (∀ e ∈ oj.after, Region.binds .any e = true → e.on ≠ i) → oi.apart ops oj = true) →
      i ∈ Region.ready .any ops listed → YieldsIf P ops S oi v a → S w →
      wpHeadH P .any ops Q S n T f (listed.setIfInBounds i true) (a.put oi.dst v) w → wpHeadH P .any ops Q S n T (f + 1) listed a w := by
  intro f
  induction f with
  | zero =>
    intro listed a w _ hr hy hS hT
    have hun := (mem_ready.1 hr).1
    refine ⟨fun h => (by rw [h] at hr; cases hr), fun j hj => ?_⟩
    have hjn : j < n := by
      rcases Nat.lt_or_ge j n with h | h
      · exact h
      · exact absurd hj (direct_waits hd hin hun j h)
    refine ⟨hjn, ?_⟩
    by_cases hji : j = i
    · subst hji; exact hy.wpOp hi hS ⟨hS, hT⟩
    · have := hdone _ _ _ hT j (ready_mono hj hji)
      omega
  | succ f ih =>
    intro listed a w hfree hr hy hS hT
    have hun := (mem_ready.1 hr).1
    refine ⟨fun h => (by rw [h] at hr; cases hr), fun j hj => ?_⟩
    have hjn : j < n := by
      rcases Nat.lt_or_ge j n with h | h
      · exact h
      · exact absurd hj (direct_waits hd hin hun j h)
    refine ⟨hjn, ?_⟩
    by_cases hji : j = i
    · subst hji; exact hy.wpOp hi hS ⟨hS, hT⟩
    · have h1 := (hT.2 j (ready_mono hj hji)).2
      obtain ⟨hjun, oj, hoj, hall⟩ := mem_ready.1 hj
      have hnot : ∀ e ∈ oj.after, Region.binds .any e = true → e.on ≠ i := fun e he hb heq => by
        have h3 := hall e he hb
        rw [heq, getD_both hun] at h3
        cases h3
      have h2 := wpOp_putIf hoj (hfree j oj hoj hji hjun hnot) (fun cs b => hsel i oi cs b hi) (fun cs b => hsel j oj cs b hoj) hQ hy h1
      have hfree' : ∀ k ok, ops[k]? = some ok → k ≠ i → (listed.setIfInBounds j true).getD k true = false →
          (∀ e ∈ ok.after, Region.binds .any e = true → e.on ≠ i) → oi.apart ops ok = true := fun k ok hk hki hu hno => by
        refine hfree k ok hk hki ?_ hno
        by_cases hjk : j = k
        · subst hjk; exact hjun
        · rw [getD_set_ne true hjk] at hu; exact hu
      refine wpOp_mono (fun a' w' h3 => ⟨h3.2.1, ih (listed.setIfInBounds j true) a' w' hfree' (ready_mono hr (Ne.symm hji)) h3.1 h3.2.1 ?_⟩) h2
      rw [Array.setIfInBounds_comm _ _ hji]
      exact h3.2.2
theorem tail_take (i : Nat) {n g : Nat} {oi : Oper} {v : Value} {f : Nat} {listed : Array Bool} {a : Act} {w : World} (hi : ops[i]? = some oi) (hs : Region.noSelect ops = true)
    (hb : (directB ops n && decide (i < n)) = true)
    (hf : Region.free .any ops listed i = true) (hr : (Region.ready .any ops listed).contains i = true)
    (hQ : ∀ c a w, Q (.panic c) (a.put oi.dst v) w → Q (.panic c) a w) (hw : Region.wanted oi (yielded ops a.tmps) = true)
    (hy : ∀ W, S W → (execOp a.eval oi).run P W = .ok (.value v) W) (hS : S w)
    (h : wpHeadH P .any ops Q S n (TailT P ops Q n g) f (listed.setIfInBounds i true) (a.put oi.dst v) w) : wpHeadH P .any ops Q S n (TailT P ops Q n g) (f + 1) listed a w := by
  simp only [Bool.and_eq_true, decide_eq_true_eq] at hb
  obtain ⟨b1, b4⟩ := hb
  exact wpHeadD_first hi (Region.noSelect_spec hs) b1 b4 hQ (fun l a w hT j hj => hT.1 j hj) f listed a w (Region.free_spec hi hf) (by simpa using hr) (Or.inl ⟨hw, hy⟩) hS h
theorem tail_call (i : Nat) {n g : Nat} {o : Oper} {f : Nat} {listed : Array Bool} {a : Act} {w : World} (hr : Region.ready .any ops listed = [i]) (hik : decide (i < n) = true) (ho : ops[i]? = some o) (hw : Region.wanted o (yielded ops a.tmps) = true)
    (h : ∀ K' : Act → World → Prop, Hid (∀ a W, S W → wpHeadH P .any ops Q S n (TailT P ops Q n g) f (listed.setIfInBounds i true) a W → K' a W) → Oper.wp P o a w K' Q) : wpHeadH P .any ops Q S n (TailT P ops Q n g) (f + 1) listed a w := by
  refine ⟨by rw [hr]; simp, fun j hj => ?_⟩
  rw [hr] at hj
  obtain rfl : j = i := by simpa using hj
  refine ⟨by simpa using hik, wpOp_step ho (fun K' hK => ?_)⟩
  rw [if_pos hw]
  exact h K' (Lib.hid fun a W hG hW => hK a W ⟨hG, hW⟩)
/-- Two operations are ready. -/
theorem tail_both (i j : Nat) {n g : Nat} {oi oj : Oper} {f : Nat} {listed : Array Bool} {a : Act} {w : World} (hr : Region.ready .any ops listed = [i, j]) (hin : (decide (i < n) && decide (j < n)) = true) (hoi : ops[i]? = some oi) (hoj : ops[j]? = some oj)
    (hwi : Region.wanted oi (yielded ops a.tmps) = true) (hwj : Region.wanted oj (yielded ops a.tmps) = true)
    (hi : ∀ K' : Act → World → Prop, Hid (∀ a W, S W → wpHeadH P .any ops Q S n (TailT P ops Q n g) f (listed.setIfInBounds i true) a W → K' a W) → Oper.wp P oi a w K' Q)
    (hj : ∀ K' : Act → World → Prop, Hid (∀ a W, S W → wpHeadH P .any ops Q S n (TailT P ops Q n g) f (listed.setIfInBounds j true) a W → K' a W) → Oper.wp P oj a w K' Q) : wpHeadH P .any ops Q S n (TailT P ops Q n g) (f + 1) listed a w := by
  simp only [Bool.and_eq_true, decide_eq_true_eq] at hin
  refine ⟨by rw [hr]; simp, fun m hm => ?_⟩
  rw [hr] at hm
  simp only [List.mem_cons, List.not_mem_nil, or_false] at hm
  rcases hm with rfl | rfl
  · refine ⟨hin.1, wpOp_step hoi (fun K' hK => ?_)⟩
    rw [if_pos hwi]
    exact hi K' (Lib.hid fun a W hG hW => hK a W ⟨hG, hW⟩)
  · refine ⟨hin.2, wpOp_step hoj (fun K' hK => ?_)⟩
    rw [if_pos hwj]
    exact hj K' (Lib.hid fun a W hG hW => hK a W ⟨hG, hW⟩)
theorem tail_norm {n g f : Nat} {listed : Array Bool} {a a' : Act} {w : World} (ha : a = a') (h : wpHeadH P .any ops Q S n (TailT P ops Q n g) f listed a' w) : wpHeadH P .any ops Q S n (TailT P ops Q n g) f listed a w := ha ▸ h
theorem tail_done {n g : Nat} {listed : Array Bool} {a : Act} {w : World} (hr : ((Region.ready .any ops listed).all fun j => decide (n ≤ j)) = true) (h : wpAny P .any ops Q g listed a w) : wpHeadH P .any ops Q S n (TailT P ops Q n g) 0 listed a w := by
  refine ⟨fun j hj => ?_, h⟩
  have := List.all_eq_true.1 hr j hj
  exact of_decide_eq_true this
end
end Go.Proofs.YtklhledcnijchaaDoor

/- Layer 20: two filters put together. Condition: rows that lie in memory that is there; few values. -/
namespace Go.Proofs.YtklhledcnijchaaDoor
open Go.RowKit
attribute [local go_sem] more_cell more_frozen more_more more_setCell more_of_drew more_of_drewN lt_more le_more past_cell past_cell2 past_frozen past_frozen2 past_setCell past_setCell2 mid_cell mid_frozen mid_setCell
attribute [local go_sem ↓] Go.wp_at_zero Go.wp_at_succ

def unF (f h : Sf) : Sf := ⟨unionW f.ws h.ws, f.k, uniJ f.ss h.ss h.ss.length, f.seed, f.cnt + h.cnt⟩
def UnSf (w : World) (f : Sf) (en : Ending) (w' : World) : Prop := ∃ g c A cA, en = .returned (.tuple #[.agg (sfC f g c A cA).toArray, .int .i64 0]) ∧ Grew w w' ∧ URow w' (some ⟨g, 0, none⟩) f.ws ∧ Row w' A (flatS f.ss)
set_option maxHeartbeats 8000000 in
set_option maxRecDepth 100000 in
theorem sunion_same (f h : Sf) (n ma mb g c g' c' : Nat) (A B : Option Addr) (cA cB : Nat) (hn : f.ws.length = n) (hm : h.ws.length = n) (h0 : 0 < n) (hl : n ≤ 1000000) (hk : f.k = h.k) (hsd : f.seed = h.seed) (hwf : wordsOk f.ws) (hwh : wordsOk h.ws)
    (hma : ma ≤ 100000) (hmb : mb ≤ 100000) (ha : ∀ s ∈ f.ss, FewN ma s) (hb : ∀ s ∈ h.ss, FewN mb s) (hla : f.ss.length ≤ 1000) (hlb : h.ss.length ≤ 1000) (hc0 : 0 ≤ f.cnt + h.cnt) (hc1 : f.cnt + h.cnt ≤ 1000000) (w : World)
    (uf : URow w (some ⟨g, 0, none⟩) f.ws) (uh : URow w (some ⟨g', 0, none⟩) h.ws) (rf : Row w A (flatS f.ss)) (rh : Row w B (flatS h.ss)) :
    Calls Tryd.prog 37 #[.agg #[.slice (some ⟨g, 0, none⟩) n c, .int .i64 f.k, .slice A f.ss.length cA, .int .i64 f.seed, .int .i64 f.cnt], .agg #[.slice (some ⟨g', 0, none⟩) n c', .int .i64 f.k, .slice B h.ss.length cB, .int .i64 f.seed, .int .i64 h.cnt]] w (UnSf w (unF f h)) := by
  obtain ⟨ws, k, ss, seed, cnt⟩ := f
  obtain ⟨vs, k', ts, seed', dnt⟩ := h
  simp only at *
  subst hk hsd
  have HBU : Hid (∀ W, Grew w W → Calls Tryd.prog 68 #[.agg #[.slice (some ⟨g, 0, none⟩) n c, .int .i64 k], .agg #[.slice (some ⟨g', 0, none⟩) n c', .int .i64 k]] W (UnionF W (unionW ws vs) n k)) := Lib.hid fun W hW => union_any ws vs n k g c g' c' hn hm h0 hl hwf hwh W (uf.grew hW) (uh.grew hW)
  have HSU : Hid (∀ W, Grew w W → Calls Tryd.prog 69 #[.slice A ss.length cA, .slice B ts.length cB] W (UnF W (uniJ ss ts ts.length))) := Lib.hid fun W hW => suni_any ma mb ss ts hma hmb ha hb hla hlb A B cA cB W (rf.grew hW) (rh.grew hW)
  have hul : (unionW ws vs).length = n := by rw [← hn]; exact unionT_len ws vs _
  have HFin : Hid (∀ (W : World) (g1 c1 : Nat) (S : Option Addr) (cS : Nat), Grew w W → URow W (some ⟨g1, 0, none⟩) (unionW ws vs) → Row W S (flatS (uniJ ss ts ts.length)) → UnSf w (unF ⟨ws, k, ss, seed, cnt⟩ ⟨vs, k, ts, seed, dnt⟩) (.returned (.tuple #[.agg #[.slice (some ⟨g1, 0, none⟩) n c1, .int .i64 k, .slice S (uniJ ss ts ts.length).length cS, .int .i64 seed, .int .i64 (cnt + dnt)], .int .i64 0])) W) := Lib.hid fun W g1 c1 S cS h1 h2 h3 => ⟨g1, c1, S, cS, by simp only [sfC, unF, hul], h1, h2, h3⟩
  have HUl := Lib.hid hul
  clear uf uh rf rh hwf hwh ha hb hn hm hul
  generalize unionW ws vs = us at *
  generalize uniJ ss ts ts.length = xs at *
  generalize UnSf w (unF ⟨ws, k, ss, seed, cnt⟩ ⟨vs, k, ts, seed, dnt⟩) = PF at *
  obtain ⟨la, hla'⟩ : ∃ la, ss.length = la := ⟨_, rfl⟩
  obtain ⟨lb, hlb'⟩ : ∃ lb, ts.length = lb := ⟨_, rfl⟩
  rw [hla', hlb'] at HSU ⊢
  clear hla' hlb' hla hlb
  obtain ⟨lx, hlx⟩ : ∃ lx, xs.length = lx := ⟨_, rfl⟩
  obtain ⟨u0, hu0⟩ : ∃ u0, ((w.alloc (.cells #[.slice (some ⟨g, 0, none⟩) n c, .int .i64 k, .slice A la cA, .int .i64 seed, .int .i64 cnt] 49)).alloc (.cells #[.slice (some ⟨g', 0, none⟩) n c', .int .i64 k, .slice B lb cB, .int .i64 seed, .int .i64 dnt] 49)).alloc (.cells #[.slice none 0 0, .int .i64 0, .slice none 0 0, .int .i64 0, .int .i64 0] 49) = u0 := ⟨_, rfl⟩
  have HB0 : Hid (Blok u0 w.heap.size 49 #[.slice (some ⟨g, 0, none⟩) n c, .int .i64 k, .slice A la cA, .int .i64 seed, .int .i64 cnt]) := Lib.hid (by rw [← hu0]; exact ((Blok.new _ _ _ _ rfl).alloc _).alloc _)
  have HC0 : Hid (Blok u0 (w.heap.size + 1) 49 #[.slice (some ⟨g', 0, none⟩) n c', .int .i64 k, .slice B lb cB, .int .i64 seed, .int .i64 dnt]) := Lib.hid (by rw [← hu0]; exact (Blok.new _ _ _ _ (by rw [World.size_alloc])).alloc _)
  have HZ0 : Hid (Blok u0 (w.heap.size + 1 + 1) 49 #[.slice none 0 0, .int .i64 0, .slice none 0 0, .int .i64 0, .int .i64 0]) := Lib.hid (by rw [← hu0]; exact Blok.new _ _ _ _ (by rw [World.size_alloc, World.size_alloc]))
  have HGu : Hid (Grew w u0) := Lib.hid (by rw [← hu0]; exact (((Grew.refl w).alloc _).alloc _).alloc _)
  have Hu0 := Lib.hid hu0
  have HLx := Lib.hid hlx
  clear hu0 hlx
  have e1 : (seed != seed) = false := by simp
  have e2 : ((0 : Int) != (0 : Int)) = false := by decide
  have hwr : IntKind.i64.wrap (cnt + dnt) = cnt + dnt := IntWalk.i64_in _ (by omega)
  go_enter Tryd.func37, Tryd.ntmps37
  go_wp2_with fail
  rw [Hu0.out]
  clear Hu0
  obtain ⟨gB, hgB⟩ : ∃ gB, w.heap.size = gB := ⟨_, rfl⟩
  rw [hgB] at HB0 HC0 HZ0 ⊢
  have HgB := Lib.hid hgB
  clear hgB
  refine (HBU.out u0 HGu.out).mono ?_
  rintro e w1 ⟨g1, c1, rfl, hx1, hu1⟩
  have hg1 : Grew u0 w1 := hx1
  obtain ⟨w2, hw2⟩ : ∃ w2, w1.alloc (.cells #[.slice (some ⟨g1, 0, none⟩) n c1, .int .i64 k] 45) = w2 := ⟨_, rfl⟩
  have hg2 : Grew w1 w2 := by rw [← hw2]; exact (Grew.refl w1).alloc _
  have HF2 : Hid (Blok w2 w1.heap.size 45 #[.slice (some ⟨g1, 0, none⟩) n c1, .int .i64 k]) := Lib.hid (by rw [← hw2]; exact Blok.new _ _ _ _ rfl)
  have HG2 := Lib.hid (HGu.out.trans (hg1.trans hg2))
  have HU2 := Lib.hid (Row.grew hu1 hg2)
  have HB2 := Lib.hid (HB0.out.grew (hg1.trans hg2))
  have HC2 := Lib.hid (HC0.out.grew (hg1.trans hg2))
  have HZ2 := Lib.hid (HZ0.out.grew (hg1.trans hg2))
  obtain ⟨g6, hg6⟩ : ∃ g6, w1.heap.size = g6 := ⟨_, rfl⟩
  rw [hg6] at HF2
  have Hg6 := Lib.hid hg6
  have Hw2 := Lib.hid hw2
  have HG1 := Lib.hid hg1
  have HS : Hid (∀ W, Grew w2 W → (gB < W.heap.size ∧ W.cell? ⟨gB, 2, none⟩ = some (.slice A la cA) ∧ W.cell? ⟨gB, 3, none⟩ = some (.int .i64 seed) ∧ W.cell? ⟨gB, 4, none⟩ = some (.int .i64 cnt)) ∧ (gB + 1 < W.heap.size ∧ W.cell? ⟨gB + 1, 2, none⟩ = some (.slice B lb cB) ∧ W.cell? ⟨gB + 1, 4, none⟩ = some (.int .i64 dnt)) ∧ (g6 < W.heap.size ∧ W.cell? ⟨g6, 0, none⟩ = some (.slice (some ⟨g1, 0, none⟩) n c1) ∧ W.cell? ⟨g6, 1, none⟩ = some (.int .i64 k))) := Lib.hid fun W hW =>
    ⟨⟨(HB2.out.grew hW).lt, (HB2.out.grew hW).cell 2, (HB2.out.grew hW).cell 3, (HB2.out.grew hW).cell 4⟩, ⟨(HC2.out.grew hW).lt, (HC2.out.grew hW).cell 2, (HC2.out.grew hW).cell 4⟩, ⟨(HF2.out.grew hW).lt, (HF2.out.grew hW).cell 0, (HF2.out.grew hW).cell 1⟩⟩
  clear hx1 hg1 hw2 hg2 hu1 hg6 HBU HB0 HC0 HZ0 HF2 HB2 HC2 HGu
  go_upto_region 6 with fail
  rw [Hw2.out, Hg6.out]
  clear Hw2 Hg6
  have HSU2 := Lib.hid (fun W (hW : Grew w2 W) => HSU.out W (HG2.out.trans hW))
  refine wp_region_tail (fun W => Grew w2 W) 14 2 rfl (by kernel_rfl) ?_
  refine tail_take 0 (v := ?_) rfl (by kernel_rfl) (by kernel_rfl) (by kernel_rfl) (by kernel_rfl) (fun _ _ _ h => h) (by rfl) ?_ ((Grew.refl _).drew) ?_
  rotate_left
  · (intro W hW; obtain ⟨⟨hl0, q2, q3, q4⟩, ⟨hl1, p2, p4⟩, hl6, r0, r1⟩ := HS.out W hW; go_simp; with_reducible rfl)
  refine tail_norm (a' := ?_) ?_ ?_
  rotate_left
  · (go_simp; with_reducible rfl)
  refine tail_take 1 (v := ?_) rfl (by kernel_rfl) (by kernel_rfl) (by kernel_rfl) (by kernel_rfl) (fun _ _ _ h => h) (by rfl) ?_ ((Grew.refl _).drew) ?_
  rotate_left
  · (intro W hW; go_simp; with_reducible rfl)
  refine tail_norm (a' := ?_) ?_ ?_
  rotate_left
  · (go_simp; with_reducible rfl)
  refine tail_take 2 (v := ?_) rfl (by kernel_rfl) (by kernel_rfl) (by kernel_rfl) (by kernel_rfl) (fun _ _ _ h => h) (by rfl) ?_ ((Grew.refl _).drew) ?_
  rotate_left
  · (intro W hW; obtain ⟨⟨hl0, q2, q3, q4⟩, ⟨hl1, p2, p4⟩, hl6, r0, r1⟩ := HS.out W hW; go_simp; with_reducible rfl)
  refine tail_norm (a' := ?_) ?_ ?_
  rotate_left
  · (go_simp; with_reducible rfl)
  refine tail_take 3 (v := ?_) rfl (by kernel_rfl) (by kernel_rfl) (by kernel_rfl) (by kernel_rfl) (fun _ _ _ h => h) (by rfl) ?_ ((Grew.refl _).drew) ?_
  rotate_left
  · (intro W hW; go_simp; with_reducible rfl)
  refine tail_norm (a' := ?_) ?_ ?_
  rotate_left
  · (go_simp; with_reducible rfl)
  refine tail_take 4 (v := ?_) rfl (by kernel_rfl) (by kernel_rfl) (by kernel_rfl) (by kernel_rfl) (fun _ _ _ h => h) (by rfl) ?_ ((Grew.refl _).drew) ?_
  rotate_left
  · (intro W hW; obtain ⟨⟨hl0, q2, q3, q4⟩, ⟨hl1, p2, p4⟩, hl6, r0, r1⟩ := HS.out W hW; go_simp; with_reducible rfl)
  refine tail_norm (a' := ?_) ?_ ?_
  rotate_left
  · (go_simp; with_reducible rfl)
  refine tail_take 6 (v := ?_) rfl (by kernel_rfl) (by kernel_rfl) (by kernel_rfl) (by kernel_rfl) (fun _ _ _ h => h) (by rfl) ?_ ((Grew.refl _).drew) ?_
  rotate_left
  · (intro W hW; go_simp; with_reducible rfl)
  refine tail_norm (a' := ?_) ?_ ?_
  rotate_left
  · (go_simp; with_reducible rfl)
  refine tail_take 7 (v := ?_) rfl (by kernel_rfl) (by kernel_rfl) (by kernel_rfl) (by kernel_rfl) (fun _ _ _ h => h) (by rfl) ?_ ((Grew.refl _).drew) ?_
  rotate_left
  · (intro W hW; obtain ⟨⟨hl0, q2, q3, q4⟩, ⟨hl1, p2, p4⟩, hl6, r0, r1⟩ := HS.out W hW; go_simp; with_reducible rfl)
  refine tail_norm (a' := ?_) ?_ ?_
  rotate_left
  · (go_simp; with_reducible rfl)
  refine tail_take 8 (v := ?_) rfl (by kernel_rfl) (by kernel_rfl) (by kernel_rfl) (by kernel_rfl) (fun _ _ _ h => h) (by rfl) ?_ ((Grew.refl _).drew) ?_
  rotate_left
  · (intro W hW; go_simp; with_reducible rfl)
  refine tail_norm (a' := ?_) ?_ ?_
  rotate_left
  · (go_simp; with_reducible rfl)
  refine tail_take 9 (v := ?_) rfl (by kernel_rfl) (by kernel_rfl) (by kernel_rfl) (by kernel_rfl) (fun _ _ _ h => h) (by rfl) ?_ ((Grew.refl _).drew) ?_
  rotate_left
  · (intro W hW; obtain ⟨⟨hl0, q2, q3, q4⟩, ⟨hl1, p2, p4⟩, hl6, r0, r1⟩ := HS.out W hW; go_simp; with_reducible rfl)
  refine tail_norm (a' := ?_) ?_ ?_
  rotate_left
  · (go_simp; with_reducible rfl)
  refine tail_take 10 (v := ?_) rfl (by kernel_rfl) (by kernel_rfl) (by kernel_rfl) (by kernel_rfl) (fun _ _ _ h => h) (by rfl) ?_ ((Grew.refl _).drew) ?_
  rotate_left
  · (intro W hW; go_simp; with_reducible rfl)
  refine tail_norm (a' := ?_) ?_ ?_
  rotate_left
  · (go_simp; with_reducible rfl)
  refine tail_take 11 (v := ?_) rfl (by kernel_rfl) (by kernel_rfl) (by kernel_rfl) (by kernel_rfl) (fun _ _ _ h => h) (by rfl) ?_ ((Grew.refl _).drew) ?_
  rotate_left
  · (intro W hW; obtain ⟨⟨hl0, q2, q3, q4⟩, ⟨hl1, p2, p4⟩, hl6, r0, r1⟩ := HS.out W hW; go_simp; with_reducible rfl)
  refine tail_norm (a' := ?_) ?_ ?_
  rotate_left
  · (go_simp; with_reducible rfl)
  refine tail_take 12 (v := ?_) rfl (by kernel_rfl) (by kernel_rfl) (by kernel_rfl) (by kernel_rfl) (fun _ _ _ h => h) (by rfl) ?_ ((Grew.refl _).drew) ?_
  rotate_left
  · (intro W hW; go_simp; with_reducible rfl)
  refine tail_norm (a' := ?_) ?_ ?_
  rotate_left
  · (go_simp; with_reducible rfl)
  refine tail_call 5 (by kernel_rfl) (by kernel_rfl) rfl (by rfl) (fun K hK => ?_)
  go_simp
  go_wp2_with fail
  refine (HSU2.out _ ((Grew.refl _).drew)).mono ?_
  rintro e w5 ⟨S5, c5, rfl, hg5, ho5⟩
  have HG5 : Hid (Grew w2 w5) := Lib.hid (((Grew.refl _).drew).trans hg5)
  have HR5 : Hid (Row w5 S5 (flatS xs)) := Lib.hid (by
    obtain ⟨A', c'', he, hr⟩ := own_row ho5
    injection he with h1 _ _
    rw [h1]
    exact hr)
  have HN5 : Hid (∀ a, S5 = some a → a.block ≠ gB + 1 + 1) := Lib.hid fun a ha => by
    subst ha
    have h1 := own_base ho5 a.block rfl
    have h2 := HZ2.out.lt
    have h3 : w2.drew.heap.size = w2.heap.size := rfl
    omega
  clear hg5 ho5 HSU HSU2
  rw [HLx.out]
  go_wp2_with fail
  refine hK.out _ _ HG5.out ?_
  clear hK K
  refine tail_take 13 (v := ?_) rfl (by kernel_rfl) (by kernel_rfl) (by kernel_rfl) (by kernel_rfl) (fun _ _ _ h => h) (by rfl) ?_ HG5.out ?_
  rotate_left
  · (intro W hW; go_simp; with_reducible rfl)
  refine tail_norm (a' := ?_) ?_ ?_
  rotate_left
  · (go_simp; with_reducible rfl)
  refine tail_done (by kernel_rfl) ?_
  have hz := HZ2.out.grew HG5.out
  have m0 := hz.cell 0
  have m1 := hz.cell 1
  have m2 := hz.cell 2
  have m3 := hz.cell 3
  have m4 := hz.cell 4
  simp at m0 m1 m2 m3 m4
  have x0 := hz.thaw 0
  have x1 := hz.thaw 1
  have x2 := hz.thaw 2
  have x3 := hz.thaw 3
  have x4 := hz.thaw 4
  have hzl := hz.lt
  have hu5 : URow w5 (some ⟨g1, 0, none⟩) us := Row.grew HU2.out HG5.out
  have hgz : g1 ≠ gB + 1 + 1 := by
    intro e
    have hus := HUl.out
    have hc0' : w5.cell? ⟨g1, 0, none⟩ = some (.int .u64 ((us[0]'(by omega) : Nat) : Int)) := by
      have := row_cells hu5 0 (.int .u64 ((us[0]'(by omega) : Nat) : Int)) (by rw [List.getElem?_map, List.getElem?_eq_getElem (by omega)]; rfl)
      simpa using this
    rw [e, m0] at hc0'
    simp at hc0'
  obtain ⟨W7, hW7⟩ : ∃ W7, (((((w5.setCell ⟨gB + 1 + 1, 0, none⟩ (.slice (some ⟨g1, 0, none⟩) n c1)).setCell ⟨gB + 1 + 1, 1, none⟩ (.int .i64 k)).setCell ⟨gB + 1 + 1, 2, none⟩ (.slice S5 lx c5)).setCell ⟨gB + 1 + 1, 3, none⟩ (.int .i64 seed)).setCell ⟨gB + 1 + 1, 4, none⟩ (.int .i64 (cnt + dnt))) = W7 := ⟨_, rfl⟩
  have hlw : w.heap.size ≤ gB + 1 + 1 := by rw [HgB.out]; omega
  have hG7 : Grew w W7 := by
    rw [← hW7]
    exact Grew.setCell (Grew.setCell (Grew.setCell (Grew.setCell (Grew.setCell (HG2.out.trans HG5.out) hlw _) hlw _) hlw _) hlw _) hlw _
  have hU7 : URow W7 (some ⟨g1, 0, none⟩) us := by
    have f0 : ∀ {w' : World} {p : Nat} {v : Value}, URow w' (some ⟨g1, 0, none⟩) us → URow (w'.setCell ⟨gB + 1 + 1, p, none⟩ v) (some ⟨g1, 0, none⟩) us := fun h => Row.turns h ((Turns.refl _ _).set _ _) (fun a ha => by injection ha with ha; subst ha; exact hgz)
    rw [← hW7]
    exact f0 (f0 (f0 (f0 (f0 hu5))))
  have hR7 : Row W7 S5 (flatS xs) := by
    have f0 : ∀ {w' : World} {p : Nat} {v : Value}, Row w' S5 (flatS xs) → Row (w'.setCell ⟨gB + 1 + 1, p, none⟩ v) S5 (flatS xs) := fun h => Row.turns h ((Turns.refl _ _).set _ _) HN5.out
    rw [← hW7]
    exact f0 (f0 (f0 (f0 (f0 HR5.out))))
  have hB7 : Blok W7 (gB + 1 + 1) 49 #[(.slice (some ⟨g1, 0, none⟩) n c1), .int .i64 k, .slice S5 lx c5, .int .i64 seed, .int .i64 (cnt + dnt)] := by
    rw [← hW7]
    exact ((((hz.set 0 _).set 1 _).set 2 _).set 3 _).set 4 _
  have hP := HFin.out W7 g1 c1 S5 c5 hG7 hU7 hR7
  rw [HLx.out] at hP
  have HPost := Lib.hid hP
  have HB7 := Lib.hid hB7
  have HW7 := Lib.hid hW7
  clear hz hu5 hgz hW7 hG7 hU7 hR7 hB7 hP hlw HFin HS HG2 HU2 HZ2 HG5 HR5 HN5 HLx HUl HG1 HgB
  refine wpAny_ready (rs := [14]) (by kernel_rfl) (by simp) ?_
  refine AllReady.cons rfl (fun K hK => ?_) AllReady.nil
  have HK := Lib.hid hK
  clear hK
  go_simp
  rw [HW7.out]
  refine HK.out _ _ ?_
  clear HK K m0 m1 m2 m3 m4 x0 x1 x2 x3 x4 hzl
  refine wpAny_ready (rs := [15]) (by kernel_rfl) (by simp) ?_
  refine AllReady.cons rfl (fun K hK => ?_) AllReady.nil
  have HK := Lib.hid hK
  clear hK
  go_simp
  refine HK.out _ _ ?_
  clear HK K
  refine ⟨by kernel_rfl, ?_⟩
  go_wp2
  have r0 := HB7.out.cell 0
  have r1 := HB7.out.cell 1
  have r2 := HB7.out.cell 2
  have r3 := HB7.out.cell 3
  have r4 := HB7.out.cell 4
  simp at r0 r1 r2 r3 r4
  exact bodyPost_ret (v := .tuple #[.agg #[.slice (some ⟨g1, 0, none⟩) n c1, .int .i64 k, .slice S5 lx c5, .int .i64 seed, .int .i64 (cnt + dnt)], .int .i64 0]) (by simp [results, Tryd.results37, go_sem, r0, r1, r2, r3, r4]) rfl HPost.out
set_option maxHeartbeats 4000000 in
set_option maxRecDepth 100000 in
theorem sunion_diff (A0 A2 B0 B2 : Option Addr) (n0 c0 n2 c2 m0 d0 m2 d2 : Nat) (k sd cnt k' sd' cnt' : Int) (hne : sd ≠ sd') (w : World) :
    Gives Tryd.prog 37 #[.agg #[.slice A0 n0 c0, .int .i64 k, .slice A2 n2 c2, .int .i64 sd, .int .i64 cnt], .agg #[.slice B0 m0 d0, .int .i64 k', .slice B2 m2 d2, .int .i64 sd', .int .i64 cnt']] w (.tuple #[.agg #[.slice none 0 0, .int .i64 0, .slice none 0 0, .int .i64 0, .int .i64 0], .int .i64 7]) := by
  have e1 : (sd != sd') = true := by simpa using hne
  unfold Gives
  go_enter Tryd.func37, Tryd.ntmps37
  go_wp2
  exact bodyPost_ret (v := .tuple #[.agg #[.slice none 0 0, .int .i64 0, .slice none 0 0, .int .i64 0, .int .i64 0], .int .i64 7]) (by simp [results, Tryd.results37, go_sem]) rfl ⟨rfl, by (show Grew _ _; repeat (first | exact Grew.refl _ | refine Grew.alloc ?_ _ | refine Grew.drew ?_ | refine Grew.more ?_ _))⟩
end Go.Proofs.YtklhledcnijchaaDoor

/- rows.copied of values, and rows.Join. Condition: no more than a million values in all. -/
namespace Go.Proofs.YtklhledcnijchaaDoor
open Go.RowKit
attribute [local go_sem] more_cell more_frozen more_more more_setCell more_of_drew more_of_drewN lt_more le_more past_cell past_cell2 past_frozen past_frozen2 past_setCell past_setCell2 mid_cell mid_frozen mid_setCell
attribute [local go_sem ↓] Go.wp_at_zero Go.wp_at_succ

/-- One of several rows: where it lies, how far it may grow, its values. -/
structure VPart where
  A : Option Addr
  k : Nat
  m : List Vl
instance vpart_some : Inhabited VPart := ⟨⟨none, 0, []⟩⟩
def vpartV (p : VPart) : Value := .slice p.A p.m.length p.k
def allV (ps : List VPart) : List Vl := (ps.map VPart.m).flatten
theorem allV_take {ps : List VPart} {j : Nat} (h : j < ps.length) : allV (ps.take (j + 1)) = allV (ps.take j) ++ ps[j].m := by
  unfold allV
  rw [List.take_succ_eq_append_getElem h, List.map_append, List.flatten_append]
  simp
theorem allV_le (ps : List VPart) (j : Nat) : (allV (ps.take j)).length ≤ (allV ps).length := by
  have : allV ps = allV (ps.take j) ++ allV (ps.drop j) := by
    unfold allV
    rw [← List.flatten_append, ← List.map_append, List.take_append_drop]
  rw [this, List.length_append]
  omega
def CvAt (ps : List VPart) (n i : Value) : Prop := ∃ j m : Nat, j ≤ ps.length ∧ i = .int .i64 j ∧ n = .int .i64 m ∧ m = (allV (ps.take j)).length
def CvAt2 (w : World) (ps : List VPart) (N : Nat) (g : Nat) (at_ i : Value) (wr : World) : Prop :=
  ∃ j m : Nat, j ≤ ps.length ∧ i = .int .i64 j ∧ at_ = .int .i64 m ∧ m = (allV (ps.take j)).length ∧ Below w.heap.size w wr ∧ wr.heap[g]? = some (.cells (flatV (allV (ps.take j)) ++ flatV (List.replicate (N - m) nulV)).toArray 31 (0, 0))
/-- A row of values of its own is handed back. -/
def ValsF (w : World) (m : List Vl) (en : Ending) (w' : World) : Prop := ∃ A k, en = .returned (.slice A m.length k) ∧ Grew w w' ∧ w'.ownsRow w.heap.size 31 3 (.slice A m.length k) m.length (flatV m)
/-- A whole block of values is one's own. -/
theorem own_whole {w : World} {g base n : Nat} {m : List Vl} (hn : m.length = n) (h : w.heap[g]? = some (.cells (flatV m).toArray 31 (0, 0))) (hb : base ≤ g) (hl : n ≤ 1000000) : w.ownsRow base 31 3 (.slice (some ⟨g, 0, none⟩) n n) n (flatV m) :=
  ⟨by rw [flatV_len, hn], Or.inr ⟨g, n, _, rfl, hb, h, Nat.le_refl _, by unfold maxLen; omega, by simp [flatV_len, hn], by
    show (flatV m).take (n * 3) = flatV m
    rw [List.take_of_length_le (by rw [flatV_len, hn]; exact Nat.le_refl _)]⟩⟩
theorem own_vals {w : World} {base n c : Nat} {A : Option Addr} {m : List Vl} (h : w.ownsRow base 31 3 (.slice A n c) n (flatV m)) : VlsR (PRow w) A m := vlsR_flat (own_rowV h)
set_option maxHeartbeats 2000000 in
set_option maxRecDepth 100000 in
theorem copied_vals (ps : List VPart) (m : Nat) (hm : ps.length = m) (hm1 : m ≤ 1000000) (hN : (allV ps).length ≤ 1000000) (P : Option Addr) (k : Nat) (w : World) (hp : Row w P (ps.map vpartV)) (hps : ∀ p ∈ ps, Row w p.A (flatV p.m)) :
    Calls Tryd.prog 56 #[.slice P m k] w (ValsF w (allV ps)) := by
  have HM := Lib.hid hm
  have HP := Lib.hid hp
  have HS := Lib.hid hps
  have HL := Lib.hid (fun j => allV_le ps j)
  obtain ⟨N, hNN⟩ : ∃ N, (allV ps).length = N := ⟨_, rfl⟩
  have HN := Lib.hid hNN
  unfold ValsF
  rw [hNN] at hN ⊢
  clear hm hp hps hNN
  go_enter Tryd.func56, Tryd.ntmps56
  go_wp2
  go_loop [3, 12] (fun n i => CvAt ps n i) (fun _ i => m - (intOf i).toNat)
  case atStart => exact ⟨0, 0, Nat.zero_le _, rfl, rfl, by simp [allV]⟩
  case round =>
    obtain ⟨j, x, hj, rfl, rfl, hx⟩ := hrel
    rw [HM.out] at hj
    have hx1 := HL.out j
    rw [HN.out, ← hx] at hx1
    have HX := Lib.hid hx
    clear hx
    by_cases h : j < m
    · have h1 : j < ps.length := by rw [HM.out]; exact h
      obtain ⟨b, o, rfl, hb, hc⟩ := HP.out.at_ (k := j) (by simpa using h1)
      rw [List.getElem_map] at hc
      have hx2 := HL.out (j + 1)
      rw [HN.out, allV_take h1, List.length_append, ← HX.out] at hx2
      have HT := Lib.hid (allV_take h1)
      unfold vpartV at hc
      generalize ps[j] = p at *
      generalize hpm : p.m.length = pn at *
      have HPM := Lib.hid hpm
      clear hpm
      go_wp2
      exact ⟨⟨j + 1, x + pn, by rw [HM.out]; omega, by go_num, by go_num, by rw [HT.out, List.length_append, HX.out, HPM.out]⟩, by simp only [intOf]; omega⟩
    · obtain rfl : j = m := by omega
      have hxN : x = N := by
        have := HX.out
        rwa [List.take_of_length_le (Nat.le_of_eq HM.out), HN.out] at this
      subst hxN
      clear HX hx1
      go_wp2_with (at_make; refine wpList_make_rows _ rfl _ _ 22 rfl 31 (.agg #[.int .i64 0, .int .i64 0, .string ⟨#[]⟩]) #[.int .i64 0, .int .i64 0, .string ⟨#[]⟩] 3 32 Tryd.underlying22 infoV rfl _ _ x rfl rfl (by omega) (by omega) ?_; rw [made_flat'])
      go_loopw [7, 25] (fun a i wr => CvAt2 w ps x w.heap.size a i wr) (fun _ i _ => j - (intOf i).toNat)
      case atStart =>
        refine ⟨0, 0, Nat.zero_le _, rfl, rfl, by simp [allV], (Below.refl _ w).alloc (Nat.le_refl _) _, ?_⟩
        rw [heap_alloc_new]
        simp [allV, flatV]
      case round =>
        obtain ⟨q, y, hq, rfl, rfl, hy, hbl, hcel⟩ := hrel
        rw [HM.out] at hq
        have hy1 := HL.out q
        rw [HN.out, ← hy] at hy1
        by_cases h : q < j
        · have h1 : q < ps.length := by rw [HM.out]; exact h
          have hy2 := HL.out (q + 1)
          rw [HN.out, allV_take h1, List.length_append, ← hy] at hy2
          obtain ⟨b, o, rfl, hb, hc⟩ := (HP.out.grew (Grew.of_below hbl)).at_ (k := q) (by simpa using h1)
          rw [List.getElem_map] at hc
          unfold vpartV at hc
          have HPR := Lib.hid (HS.out _ (List.getElem_mem h1))
          have hfl : (flatV (allV (ps.take q))).length = y * 3 := by rw [flatV_len, hy]
          have HFT := Lib.hid (allV_take h1)
          have HY := Lib.hid hy
          have HBL := Lib.hid hbl
          have HCEL := Lib.hid hcel
          have HFL := Lib.hid hfl
          clear hy hbl hcel hfl
          generalize ps[q] = p at *
          generalize hpm : p.m.length = pn at *
          have HPM := Lib.hid hpm
          have HSP : Hid (splice (flatV (allV (ps.take q)) ++ flatV (List.replicate (x - y) nulV)) (y * 3) (flatV p.m) = flatV (allV (ps.take (q + 1))) ++ flatV (List.replicate (x - (y + pn)) nulV)) := Lib.hid (by
            unfold splice
            rw [HFT.out, flatV_app, flatV_len, HPM.out, List.take_left' HFL.out, List.append_assoc]
            congr 2
            rw [List.drop_append, HFL.out, List.drop_of_length_le (by rw [HFL.out]; omega), List.nil_append, show y * 3 + pn * 3 - y * 3 = pn * 3 by omega, flatV_drop, List.drop_replicate]
            congr 2
            omega)
          have hpn : (flatV p.m).length = pn * 3 := by rw [flatV_len, hpm]
          clear hpm
          have HPV := Lib.hid (flatV_one p.m)
          have hfit : ∀ k, k ≤ pn → y * 3 + k * 3 ≤ (flatV (allV (ps.take q)) ++ flatV (List.replicate (x - y) nulV)).length := fun k hk => by rw [List.length_append, HFL.out, flatV_len, List.length_replicate]; omega
          by_cases hyx : y = x
          · have hp0 : pn = 0 := by omega
            obtain ⟨w2, hcr, hh2, hb2⟩ := run_copy_into (P := Tryd.prog) (T := 22) (ty := 3) (size := 3) (o := y * 3) (dLen := 0) (dCap := 0) (sCap := p.k) (dp := some ⟨w.heap.size, 0, none⟩) Tryd.underlying22 (by kernel_rfl) HCEL.out hpn (by omega) (by omega) (HPR.out.grew (Grew.of_below HBL.out)) (hfit pn (Nat.le_refl _)) HPV.out (by decide) HBL.out (Nat.le_refl _)
            have HB2 := Lib.hid hb2
            have HH2 := Lib.hid hh2
            rw [HSP.out] at HH2
            clear hh2 hb2 hpn hfit
            rw [hp0] at hcr hc hy2
            subst hyx
            go_wp2
            exact ⟨⟨q + 1, y + pn, by rw [HM.out]; omega, by go_num, by rw [hp0]; rfl, by rw [HFT.out, List.length_append, HY.out, HPM.out], HB2.out, HH2.out⟩, by simp only [intOf]; omega⟩
          · have hyx2 : y < x := by omega
            obtain ⟨w2, hcr, hh2, hb2⟩ := run_copy_into (P := Tryd.prog) (T := 22) (ty := 3) (size := 3) (dLen := x - y) (dCap := x - y) (sCap := p.k) (dp := some ⟨w.heap.size, y * 3, none⟩) Tryd.underlying22 (by kernel_rfl) HCEL.out hpn (by omega) (fun _ => rfl) (HPR.out.grew (Grew.of_below HBL.out)) (hfit pn (Nat.le_refl _)) HPV.out (by decide) HBL.out (Nat.le_refl _)
            have HB2 := Lib.hid hb2
            have HH2 := Lib.hid hh2
            rw [HSP.out] at HH2
            clear hh2 hb2 hpn hfit
            go_wp2
            refine ⟨⟨q + 1, y + pn, by rw [HM.out]; omega, by go_num, by go_num, by rw [HFT.out, List.length_append, HY.out, HPM.out], HB2.out, HH2.out⟩, by simp only [intOf]; omega⟩
        · obtain rfl : q = j := by omega
          have hyN : y = x := by
            rwa [List.take_of_length_le (Nat.le_of_eq HM.out), HN.out] at hy
          have hR : ∃ A k, Ending.returned (.slice (some ⟨w.heap.size, 0, none⟩) x x) = Ending.returned (.slice A x k) ∧ Grew w wr ∧ wr.ownsRow w.heap.size 31 3 (.slice A x k) x (flatV (allV ps)) := by
            refine ⟨some ⟨w.heap.size, 0, none⟩, x, rfl, Grew.of_below hbl, ?_⟩
            rw [hyN, Nat.sub_self, List.replicate_zero, List.take_of_length_le (Nat.le_of_eq HM.out)] at hcel
            have e0 : flatV ([] : List Vl) = [] := rfl
            rw [e0, List.append_nil] at hcel
            exact own_whole HN.out hcel (Nat.le_refl _) hN
          have HRR := Lib.hid hR
          clear hR hcel hbl hy hy1
          go_wp2
          go_ret
          exact HRR.out
theorem join_vals (ps : List VPart) (m : Nat) (hm : ps.length = m) (hm1 : m ≤ 1000000) (hN : (allV ps).length ≤ 1000000) (P : Option Addr) (k : Nat) (w : World) (hp : Row w P (ps.map vpartV)) (hps : ∀ p ∈ ps, Row w p.A (flatV p.m)) :
    Calls Tryd.prog 23 #[.slice P m k] w (ValsF w (allV ps)) := by
  have HC := Lib.hid (copied_vals ps m hm hm1 hN P k w hp hps)
  clear hp hps hm
  go_enter Tryd.func23, Tryd.ntmps23
  go_wp2_with fail
  refine HC.out.mono ?_
  rintro e w1 ⟨A, c, rfl, hg, hr⟩
  have HR := Lib.hid hr
  have HG := Lib.hid hg
  clear hr hg HC
  generalize hln : (allV ps).length = ln at *
  have HLn := Lib.hid hln
  clear hln
  go_wp2
  go_ret
  exact ⟨A, c, by rw [HLn.out]; rfl, HG.out, by rw [HLn.out]; exact HR.out⟩
end Go.Proofs.YtklhledcnijchaaDoor

/- rows.Nulls. No condition. -/
namespace Go.Proofs.YtklhledcnijchaaDoor
open Go.RowKit
attribute [local go_sem] more_cell more_frozen more_more more_setCell more_of_drew more_of_drewN lt_more le_more past_cell past_cell2 past_frozen past_frozen2 past_setCell past_setCell2 mid_cell mid_frozen mid_setCell
attribute [local go_sem ↓] Go.wp_at_zero Go.wp_at_succ

def NuAt (w : World) (m : Nat) (g : Nat) (i : Value) (wr : World) : Prop :=
  ∃ j : Nat, j ≤ m ∧ i = .int .i64 j ∧ Below w.heap.size w wr ∧ Blok wr g 31 (flatV (List.replicate m nulV)).toArray
theorem rep_at {m j : Nat} (h : j < m) : ∀ c v, (vcL nulV)[c]? = some v → (flatV (List.replicate m nulV)).toArray[j * 3 + c]? = some v := by
  intro c v hc
  have e : flatV (List.replicate m nulV) = flatV (List.replicate j nulV) ++ (vcL nulV ++ flatV (List.replicate (m - j - 1) nulV)) := by
    have e1 : vcL nulV = flatV [nulV] := by simp [flatV]
    rw [e1, ← flatV_app, ← flatV_app]
    congr 1
    rw [show [nulV] = List.replicate 1 nulV from rfl, List.replicate_append_replicate, List.replicate_append_replicate]
    congr 1
    omega
  have hcl : c < 3 := by
    rcases Nat.lt_or_ge c 3 with h | h
    · exact h
    · rw [List.getElem?_eq_none (show (vcL nulV).length ≤ c from h)] at hc
      cases hc
  have hl : (flatV (List.replicate j nulV)).length = j * 3 := by rw [flatV_len, List.length_replicate]
  rw [List.getElem?_toArray, e, List.getElem?_append_right (by omega), hl, Nat.add_sub_cancel_left, List.getElem?_append_left (by show c < 3; exact hcl)]
  exact hc
theorem set_same {cs : Array Value} {i : Nat} {v : Value} (h : cs[i]? = some v) : cs.setIfInBounds i v = cs := by
  apply Array.ext_getElem?
  intro j
  rw [Array.getElem?_setIfInBounds]
  by_cases hj : i = j
  · subst hj
    have hl : i < cs.size := by
      rcases Nat.lt_or_ge i cs.size with h1 | h1
      · exact h1
      · rw [Array.getElem?_eq_none h1] at h; cases h
    rw [if_pos rfl, if_pos hl, h]
  · rw [if_neg hj]
set_option maxHeartbeats 1000000 in
set_option maxRecDepth 100000 in
theorem nulls_any (n : Int) (m : Nat) (m0 : Int) (h0 : max (0 : Int) n = m0) (hm : min (65536 : Int) m0 = (m : Int)) (w : World) :
    Calls Tryd.prog 22 #[.int .i64 n] w (ValsF w (List.replicate m nulV)) := by
  unfold ValsF
  rw [List.length_replicate]
  have hm1 : m ≤ 65536 := by omega
  go_enter Tryd.func22, Tryd.ntmps22
  go_wp2_with (at_make; refine wpList_make_rows _ rfl _ _ 22 rfl 31 (.agg #[.int .i64 0, .int .i64 0, .string ⟨#[]⟩]) #[.int .i64 0, .int .i64 0, .string ⟨#[]⟩] 3 32 Tryd.underlying22 infoV rfl _ _ m rfl rfl (by omega) (by omega) ?_; rw [made_flat'])
  clear h0 hm
  go_loopw [11] (fun i wr => NuAt w m w.heap.size i wr) (fun i _ => m - (intOf i).toNat)
  case atStart => exact ⟨0, Nat.zero_le _, rfl, (Below.refl _ w).alloc (Nat.le_refl _) _, Blok.new _ _ _ _ rfl⟩
  case round =>
    obtain ⟨j, hj, rfl, hb, hk⟩ := hrel
    have HB := Lib.hid hb
    have HK := Lib.hid hk
    clear hb hk
    by_cases h : j < m
    · have hji : (j : Int) < (m : Int) := by omega
      go_wp2_with fail
      (with_reducible refine (null_any _).grows.mono ?_)
      rintro e w2 ⟨rfl, hg2⟩
      have hk2 := HK.out.grew hg2
      have hb2 : Below w.heap.size w w2 := HB.out.trans ((Grew.below hg2).mono HB.out.size)
      have c0 := hk2.cell (j * 3)
      have c1 := hk2.cell (j * 3 + 1)
      have c2 := hk2.cell (j * 3 + 2)
      have a0 := rep_at h 0 (.int .i64 0) rfl
      have a1 := rep_at h 1 (.int .i64 0) rfl
      have a2 := rep_at h 2 (.string ⟨#[]⟩) rfl
      rw [Nat.add_zero] at a0
      rw [a0] at c0
      rw [a1] at c1
      rw [a2] at c2
      have d0 := hk2.thaw (j * 3)
      have d1 := hk2.thaw (j * 3 + 1)
      have d2 := hk2.thaw (j * 3 + 2)
      have HS : Hid (Blok (((w2.setCell ⟨w.heap.size, j * 3, none⟩ (.int .i64 0)).setCell ⟨w.heap.size, j * 3 + 1, none⟩ (.int .i64 0)).setCell ⟨w.heap.size, j * 3 + 2, none⟩ (.string ⟨#[]⟩)) w.heap.size 31 (flatV (List.replicate m nulV)).toArray) := Lib.hid (by
        have h3 := ((hk2.set (j * 3) (.int .i64 0)).set (j * 3 + 1) (.int .i64 0)).set (j * 3 + 2) (.string ⟨#[]⟩)
        rwa [set_same (i := j * 3) a0, set_same (i := j * 3 + 1) a1, set_same (i := j * 3 + 2) a2] at h3)
      have HBs : Hid (Below w.heap.size w (((w2.setCell ⟨w.heap.size, j * 3, none⟩ (.int .i64 0)).setCell ⟨w.heap.size, j * 3 + 1, none⟩ (.int .i64 0)).setCell ⟨w.heap.size, j * 3 + 2, none⟩ (.string ⟨#[]⟩))) := Lib.hid (((hb2.setCell (p := ⟨w.heap.size, j * 3, none⟩) (Nat.le_refl _) _).setCell (p := ⟨w.heap.size, j * 3 + 1, none⟩) (Nat.le_refl _) _).setCell (p := ⟨w.heap.size, j * 3 + 2, none⟩) (Nat.le_refl _) _)
      clear a0 a1 a2 hk2 hb2 hg2
      go_wp2
      exact ⟨⟨j + 1, by omega, by go_num, HBs.out, HS.out⟩, by simp only [intOf]; omega⟩
    · obtain rfl : j = m := by omega
      go_wp2
      go_ret
      exact ⟨some ⟨w.heap.size, 0, none⟩, j, rfl, Grew.of_below HB.out, own_whole (List.length_replicate ..) HK.out (Nat.le_refl _) (by omega)⟩
end Go.Proofs.YtklhledcnijchaaDoor

/- Some values of a row: rows.Pick, and the document's. Condition: no more than a million places. -/
namespace Go.Proofs.YtklhledcnijchaaDoor
open Go.RowKit
attribute [local go_sem] more_cell more_frozen more_more more_setCell more_of_drew more_of_drewN lt_more le_more past_cell past_cell2 past_frozen past_frozen2 past_setCell past_setCell2 mid_cell mid_frozen mid_setCell
attribute [local go_sem ↓] Go.wp_at_zero Go.wp_at_succ

/-- The value at a place, null where there is none. -/
def pickV (r : List Vl) (p : Int) : Vl := if 0 ≤ p ∧ p < r.length then r.getD p.toNat nulV else nulV
def pickL (r : List Vl) (ps : List Int) : List Vl := ps.map (pickV r)
theorem pickL_len (r : List Vl) (ps : List Int) : (pickL r ps).length = ps.length := by simp [pickL]
theorem pickL_snoc {r : List Vl} {ps : List Int} {j : Nat} (h : j < ps.length) : pickL r (ps.take (j + 1)) = pickL r (ps.take j) ++ [pickV r ps[j]] := by
  unfold pickL
  rw [List.take_succ_eq_append_getElem h, List.map_append]
  rfl
theorem pickV_in {r : List Vl} {p : Nat} (h : p < r.length) : pickV r p = r[p] := by
  unfold pickV
  rw [if_pos ⟨by omega, by omega⟩, Int.toNat_natCast, List.getD_eq_getElem?_getD, List.getElem?_eq_getElem h]
  rfl
theorem pickV_out {r : List Vl} {p : Int} (h : ¬ (0 ≤ p ∧ p < r.length)) : pickV r p = nulV := if_neg h
theorem own_thus {w w' : World} {base : Nat} {e : TypeId} {size n : Nat} {v : Value} {xs : List Value} (h : w.ownsRow base e size v n xs) (g : Grew w w') : w'.ownsRow base e size v n xs := by
  obtain ⟨x, rfl⟩ := g
  exact own_more h x
def PkAt (w : World) (r : List Vl) (ps : List Int) (v i : Value) (wr : World) : Prop :=
  ∃ (j : Nat) (A : Option Addr) (c : Nat), j ≤ ps.length ∧ i = .int .i64 j ∧ v = .slice A j c ∧ Grew w wr ∧ wr.ownsRow w.heap.size 31 3 (.slice A j c) j (flatV (pickL r (ps.take j)))
set_option maxHeartbeats 4000000 in
set_option maxRecDepth 100000 in
theorem pick_any (r : List Vl) (ps : List Int) (hp : ps.length ≤ 1000000) (A B : Option Addr) (k c : Nat) (w : World) (ra : VlsR (PRow w) A r) (rb : Row w B (iV ps)) :
    Calls Tryd.prog 20 #[.slice A r.length k, .slice B ps.length c] w (ValsF w (pickL r ps)) := by
  have RA := Lib.hid ra
  have RB := Lib.hid rb
  unfold ValsF
  rw [pickL_len]
  have HN := Lib.hid (nulls_any 0 0 0 (by decide) (by decide) w)
  clear ra rb
  go_enter Tryd.func20, Tryd.ntmps20
  go_wp2_with fail
  refine HN.out.mono ?_
  rintro e w1 ⟨A1, c1, rfl, hg1, ho1⟩
  have HG1 := Lib.hid hg1
  have HO1 := Lib.hid ho1
  clear hg1 ho1 HN
  rw [List.length_replicate] at HO1 ⊢
  go_wp2
  go_loopw [5, 12] (fun v i wr => PkAt w r ps v i wr) (fun _ i _ => ps.length - (intOf i).toNat)
  case atStart => exact ⟨0, A1, c1, Nat.zero_le _, rfl, rfl, HG1.out, HO1.out⟩
  case round =>
    obtain ⟨j, A2, c2, hj, rfl, rfl, hg, ho⟩ := hrel
    have HG := Lib.hid hg
    have HO := Lib.hid ho
    clear hg ho HG1 HO1
    by_cases h : j < ps.length
    · have hji : (j : Int) < (ps.length : Int) := by omega
      obtain ⟨pb, po, rfl, hpb, hpc'⟩ := (RB.out.grew HG.out).at_ (k := j) (by simp [iV, h])
      have hpc : wr.cell? ⟨pb, po + j, none⟩ = some (.int .i64 ps[j]) := by rw [hpc']; simp [iV]
      have HSn := Lib.hid (pickL_snoc (r := r) h)
      clear hpc'
      generalize ps[j] = p at *
      go_upto_region 6 with (go_at_call 55; (with_reducible refine (null_any _).grows.mono ?_); rintro e w2 ⟨rfl, hg2⟩; have HG2 := Lib.hid hg2; clear hg2)
      have HF : Hid (∀ (x : Vl), pickV r p = x → ∀ A3 c3 w3, w3.ownsRow w.heap.size 31 3 (.slice A3 (j + 1) c3) (j + 1) (flatV (pickL r (ps.take j)) ++ [.int .i64 x.k, .int .i64 x.i, .string x.s]) → Grew w w3 → PkAt w r ps (.slice A3 (j + 1) c3) (.int .i64 ((j : Int) + 1)) w3) := Lib.hid fun x hx A3 c3 w3 h1 h2 => ⟨j + 1, A3, c3, by omega, by go_num, rfl, h2, by rw [HSn.out, hx, ← flatV_snoc]; exact h1⟩
      obtain ⟨W3, hW3⟩ : ∃ W3, w2.alloc (.cells #[.int .i64 0, .int .i64 0, .string ⟨#[]⟩] 31) = W3 := ⟨_, rfl⟩
      have HB3 : Hid (Blok W3 w2.heap.size 31 #[.int .i64 0, .int .i64 0, .string ⟨#[]⟩]) := Lib.hid (by rw [← hW3]; exact Blok.new _ _ _ _ rfl)
      have HG3 : Hid (Grew wr W3) := Lib.hid (by rw [← hW3]; exact HG2.out.alloc _)
      have hgs := HG2.out.size
      rw [hW3]
      clear hW3 HG2
      generalize w2.heap.size = g at *
      by_cases hin : 0 ≤ p ∧ p < (r.length : Int)
      · obtain ⟨q, rfl⟩ : ∃ q : Nat, p = q := ⟨p.toNat, by omega⟩
        obtain ⟨hin0, hin1⟩ := hin
        have hq : q < r.length := by omega
        have f0 : decide ((0 : Int) ≤ (q : Int)) = true := decide_eq_true hin0
        have f1 : decide ((q : Int) < (r.length : Int)) = true := decide_eq_true hin1
        obtain ⟨rb', ro, rfl, hrb, d0, d1, d2⟩ := vlsR_at (RA.out.grew (HG.out.trans HG3.out)) hq
        have HF := Lib.hid (HF.out _ (pickV_in hq))
        obtain ⟨_, z0, z1, z2, y0, y1, y2⟩ := val_in HB3.out
        clear HSn
        generalize hxk : r[q] = x at *
        obtain ⟨xk, xi, xs⟩ := x
        simp only at d0 d1 d2 HF
        clear hxk
        go_upto_region 8 with fail
        have HB4 := Lib.hid (val_set HB3.out (.int .i64 xk) (.int .i64 xi) (.string xs))
        have HG4 := Lib.hid (grew_set3 HG3.out hgs (.int .i64 xk) (.int .i64 xi) (.string xs))
        generalize (((W3.setCell ⟨g, 0, none⟩ (.int .i64 xk)).setCell ⟨g, 1, none⟩ (.int .i64 xi)).setCell ⟨g, 2, none⟩ (.string xs)) = W4 at *
        have HO4 := Lib.hid (own_thus HO.out HG4.out)
        clear z0 z1 z2 y0 y1 y2 d0 d1 d2 HB3 HG3 RA HO
        generalize flatV (pickL r (ps.take j)) = M at *
        obtain ⟨_, e0, e1, e2, _, _, _⟩ := val_in HB4.out
        go_wp2_with (at_builtin; refine wpList_apps rfl (.tmp 29) (.tmp 31) 22 31 3 rfl w (.agg #[.int .i64 0, .int .i64 0, .string ⟨#[]⟩]) 32 Tryd.underlying22 infoV rfl (by decide) (by decide) _ _ _ rfl (own_alloc HO4.out _) _ 1 1 [.int .i64 xk, .int .i64 xi, .string xs] rfl rfl (row_new _ _ _ _ rfl) (by simp [Value.oneCell']) (by omega) ((HG.out.trans HG4.out).alloc _) ?_; intro A3 c3 w3 ho3 _ hg3 _ _; have HX := Lib.hid (HF.out A3 c3 w3 ho3 hg3); clear ho3 hg3)
        exact ⟨HX.out, by simp only [intOf]; omega⟩
      · have HF := Lib.hid (HF.out _ (pickV_out hin))
        unfold nulV at HF
        simp only at HF
        have HB4 := HB3
        have HG4 := HG3
        have HO4 := Lib.hid (own_thus HO.out HG4.out)
        clear HB3 HG3 RA HO HSn
        generalize flatV (pickL r (ps.take j)) = M at *
        by_cases hp0 : 0 ≤ p
        · have f0 : decide ((0 : Int) ≤ p) = true := decide_eq_true hp0
          have f1 : decide (p < (r.length : Int)) = false := decide_eq_false (fun h => hin ⟨hp0, h⟩)
          obtain ⟨_, e0, e1, e2, _, _, _⟩ := val_in HB4.out
          go_wp2_with (at_builtin; refine wpList_apps rfl (.tmp 29) (.tmp 31) 22 31 3 rfl w (.agg #[.int .i64 0, .int .i64 0, .string ⟨#[]⟩]) 32 Tryd.underlying22 infoV rfl (by decide) (by decide) _ _ _ rfl (own_alloc HO4.out _) _ 1 1 [.int .i64 0, .int .i64 0, .string ⟨#[]⟩] rfl rfl (row_new _ _ _ _ rfl) (by simp [Value.oneCell']) (by omega) ((HG.out.trans HG4.out).alloc _) ?_; intro A3 c3 w3 ho3 _ hg3 _ _; have HX := Lib.hid (HF.out A3 c3 w3 ho3 hg3); clear ho3 hg3)
          exact ⟨HX.out, by simp only [intOf]; omega⟩
        · have f0 : decide ((0 : Int) ≤ p) = false := decide_eq_false hp0
          obtain ⟨_, e0, e1, e2, _, _, _⟩ := val_in HB4.out
          go_wp2_with (at_builtin; refine wpList_apps rfl (.tmp 29) (.tmp 31) 22 31 3 rfl w (.agg #[.int .i64 0, .int .i64 0, .string ⟨#[]⟩]) 32 Tryd.underlying22 infoV rfl (by decide) (by decide) _ _ _ rfl (own_alloc HO4.out _) _ 1 1 [.int .i64 0, .int .i64 0, .string ⟨#[]⟩] rfl rfl (row_new _ _ _ _ rfl) (by simp [Value.oneCell']) (by omega) ((HG.out.trans HG4.out).alloc _) ?_; intro A3 c3 w3 ho3 _ hg3 _ _; have HX := Lib.hid (HF.out A3 c3 w3 ho3 hg3); clear ho3 hg3)
          exact ⟨HX.out, by simp only [intOf]; omega⟩
    · obtain rfl : j = ps.length := by omega
      rw [List.take_length] at HO
      go_wp2
      go_ret
      exact ⟨A2, c2, rfl, HG.out, HO.out⟩
set_option maxHeartbeats 4000000 in
set_option maxRecDepth 100000 in
theorem rpick_any (r : List Vl) (ps : List Int) (hp : ps.length ≤ 1000000) (A B : Option Addr) (k c : Nat) (w : World) (ra : VlsR (PRow w) A r) (rb : Row w B (iV ps)) :
    Calls Tryd.prog 21 #[.slice A r.length k, .slice B ps.length c] w (ValsF w (pickL r ps)) := by
  have RA := Lib.hid ra
  have RB := Lib.hid rb
  unfold ValsF
  rw [pickL_len]
  clear ra rb
  go_enter Tryd.func21, Tryd.ntmps21
  go_wp2
  go_loopw [5, 6] (fun v i wr => PkAt w r ps v i wr) (fun _ i _ => ps.length - (intOf i).toNat)
  case atStart => exact ⟨0, none, 0, Nat.zero_le _, rfl, rfl, Grew.refl w, own_none w _ _ 3⟩
  case round =>
    obtain ⟨j, A2, c2, hj, rfl, rfl, hg, ho⟩ := hrel
    have HG := Lib.hid hg
    have HO := Lib.hid ho
    clear hg ho
    by_cases h : j < ps.length
    · have hji : (j : Int) < (ps.length : Int) := by omega
      obtain ⟨pb, po, rfl, hpb, hpc'⟩ := (RB.out.grew HG.out).at_ (k := j) (by simp [iV, h])
      have hpc : wr.cell? ⟨pb, po + j, none⟩ = some (.int .i64 ps[j]) := by rw [hpc']; simp [iV]
      have HSn := Lib.hid (pickL_snoc (r := r) h)
      clear hpc'
      generalize ps[j] = p at *
      go_upto_region 6 with fail
      have HF : Hid (∀ (x : Vl), pickV r p = x → ∀ A3 c3 w3, w3.ownsRow w.heap.size 31 3 (.slice A3 (j + 1) c3) (j + 1) (flatV (pickL r (ps.take j)) ++ [.int .i64 x.k, .int .i64 x.i, .string x.s]) → Grew w w3 → PkAt w r ps (.slice A3 (j + 1) c3) (.int .i64 ((j : Int) + 1)) w3) := Lib.hid fun x hx A3 c3 w3 h1 h2 => ⟨j + 1, A3, c3, by omega, by go_num, rfl, h2, by rw [HSn.out, hx, ← flatV_snoc]; exact h1⟩
      obtain ⟨W3, hW3⟩ : ∃ W3, wr.alloc (.cells #[.int .i64 0, .int .i64 0, .string ⟨#[]⟩] 31) = W3 := ⟨_, rfl⟩
      have HB3 : Hid (Blok W3 wr.heap.size 31 #[.int .i64 0, .int .i64 0, .string ⟨#[]⟩]) := Lib.hid (by rw [← hW3]; exact Blok.new _ _ _ _ rfl)
      have HG3 : Hid (Grew wr W3) := Lib.hid (by rw [← hW3]; exact (Grew.refl wr).alloc _)
      have hpc3 := (HG3.out.cell (a := ⟨pb, po + j, none⟩) hpb).trans hpc
      have hpb3 := Nat.lt_of_lt_of_le hpb HG3.out.size
      have hgs : wr.heap.size ≤ wr.heap.size := Nat.le_refl _
      rw [hW3]
      clear hW3 hpc hpb
      have HGw := Lib.hid hgs
      clear hgs
      have hgs := HGw.out
      obtain ⟨g, hg⟩ : ∃ g, wr.heap.size = g := ⟨_, rfl⟩
      rw [hg] at HB3 ⊢
      have HGs : Hid (wr.heap.size ≤ g) := Lib.hid (Nat.le_of_eq hg)
      clear hg hgs HGw
      by_cases hin : 0 ≤ p ∧ p < (r.length : Int)
      · obtain ⟨q, rfl⟩ : ∃ q : Nat, p = q := ⟨p.toNat, by omega⟩
        obtain ⟨hin0, hin1⟩ := hin
        have hq : q < r.length := by omega
        have f0 : decide ((0 : Int) ≤ (q : Int)) = true := decide_eq_true hin0
        have f1 : decide ((q : Int) < (r.length : Int)) = true := decide_eq_true hin1
        obtain ⟨rb', ro, rfl, hrb, d0, d1, d2⟩ := vlsR_at (RA.out.grew (HG.out.trans HG3.out)) hq
        have HF := Lib.hid (HF.out _ (pickV_in hq))
        obtain ⟨_, z0, z1, z2, y0, y1, y2⟩ := val_in HB3.out
        clear HSn
        generalize hxk : r[q] = x at *
        obtain ⟨xk, xi, xs⟩ := x
        simp only at d0 d1 d2 HF
        clear hxk
        go_upto_region 8 with fail
        have HB4 := Lib.hid (val_set HB3.out (.int .i64 xk) (.int .i64 xi) (.string xs))
        have HG4 := Lib.hid (grew_set3 HG3.out HGs.out (.int .i64 xk) (.int .i64 xi) (.string xs))
        generalize (((W3.setCell ⟨g, 0, none⟩ (.int .i64 xk)).setCell ⟨g, 1, none⟩ (.int .i64 xi)).setCell ⟨g, 2, none⟩ (.string xs)) = W4 at *
        have HO4 := Lib.hid (own_thus HO.out HG4.out)
        clear z0 z1 z2 y0 y1 y2 d0 d1 d2 HB3 HG3 RA HO
        generalize flatV (pickL r (ps.take j)) = M at *
        obtain ⟨_, e0, e1, e2, _, _, _⟩ := val_in HB4.out
        go_wp2_with (at_builtin; refine wpList_apps rfl (.tmp 36) (.tmp 38) 22 31 3 rfl w (.agg #[.int .i64 0, .int .i64 0, .string ⟨#[]⟩]) 32 Tryd.underlying22 infoV rfl (by decide) (by decide) _ _ _ rfl (own_alloc HO4.out _) _ 1 1 [.int .i64 xk, .int .i64 xi, .string xs] rfl rfl (row_new _ _ _ _ rfl) (by simp [Value.oneCell']) (by omega) ((HG.out.trans HG4.out).alloc _) ?_; intro A3 c3 w3 ho3 _ hg3 _ _; have HX := Lib.hid (HF.out A3 c3 w3 ho3 hg3); clear ho3 hg3)
        exact ⟨HX.out, by simp only [intOf]; omega⟩
      · have HF := Lib.hid (HF.out _ (pickV_out hin))
        unfold nulV at HF
        simp only at HF
        have HB4 := HB3
        have HG4 := HG3
        have HO4 := Lib.hid (own_thus HO.out HG4.out)
        clear HB3 HG3 RA HO HSn
        generalize flatV (pickL r (ps.take j)) = M at *
        by_cases hp0 : 0 ≤ p
        · have f0 : decide ((0 : Int) ≤ p) = true := decide_eq_true hp0
          have f1 : decide (p < (r.length : Int)) = false := decide_eq_false (fun h => hin ⟨hp0, h⟩)
          obtain ⟨_, e0, e1, e2, _, _, _⟩ := val_in HB4.out
          go_wp2_with (at_builtin; refine wpList_apps rfl (.tmp 36) (.tmp 38) 22 31 3 rfl w (.agg #[.int .i64 0, .int .i64 0, .string ⟨#[]⟩]) 32 Tryd.underlying22 infoV rfl (by decide) (by decide) _ _ _ rfl (own_alloc HO4.out _) _ 1 1 [.int .i64 0, .int .i64 0, .string ⟨#[]⟩] rfl rfl (row_new _ _ _ _ rfl) (by simp [Value.oneCell']) (by omega) ((HG.out.trans HG4.out).alloc _) ?_; intro A3 c3 w3 ho3 _ hg3 _ _; have HX := Lib.hid (HF.out A3 c3 w3 ho3 hg3); clear ho3 hg3)
          exact ⟨HX.out, by simp only [intOf]; omega⟩
        · have f0 : decide ((0 : Int) ≤ p) = false := decide_eq_false hp0
          obtain ⟨_, e0, e1, e2, _, _, _⟩ := val_in HB4.out
          go_wp2_with (at_builtin; refine wpList_apps rfl (.tmp 36) (.tmp 38) 22 31 3 rfl w (.agg #[.int .i64 0, .int .i64 0, .string ⟨#[]⟩]) 32 Tryd.underlying22 infoV rfl (by decide) (by decide) _ _ _ rfl (own_alloc HO4.out _) _ 1 1 [.int .i64 0, .int .i64 0, .string ⟨#[]⟩] rfl rfl (row_new _ _ _ _ rfl) (by simp [Value.oneCell']) (by omega) ((HG.out.trans HG4.out).alloc _) ?_; intro A3 c3 w3 ho3 _ hg3 _ _; have HX := Lib.hid (HF.out A3 c3 w3 ho3 hg3); clear ho3 hg3)
          exact ⟨HX.out, by simp only [intOf]; omega⟩
    · obtain rfl : j = ps.length := by omega
      rw [List.take_length] at HO
      go_wp2
      go_ret
      exact ⟨A2, c2, rfl, HG.out, HO.out⟩
end Go.Proofs.YtklhledcnijchaaDoor

/- Layer 20: new filters; which keys pass; the page's example. Condition: rows that lie in memory that is there; keys that are not much; the library's table of powers. -/
namespace Go.Proofs.YtklhledcnijchaaDoor
open Go.RowKit
attribute [local go_sem] more_cell more_frozen more_more more_setCell more_of_drew more_of_drewN lt_more le_more past_cell past_cell2 past_frozen past_frozen2 past_setCell past_setCell2 mid_cell mid_frozen mid_setCell
attribute [local go_sem ↓] Go.wp_at_zero Go.wp_at_succ

/-- A new filter. -/
def newF (seed words bits : Int) : Sf := ⟨List.replicate (clampN words 4096) 0, clampN bits 5, [], seed, 0⟩
set_option maxHeartbeats 1000000 in
theorem snew_any (seed words bits : Int) (w : World) : Calls Tryd.prog 36 #[.int .i64 seed, .int .i64 words, .int .i64 bits] w (SfF w (newF seed words bits)) := by
  obtain ⟨u0, hu0⟩ : ∃ u0, w.alloc (.cells #[.slice none 0 0, .int .i64 0, .slice none 0 0, .int .i64 0, .int .i64 0] 49) = u0 := ⟨_, rfl⟩
  obtain ⟨gB, hgB⟩ : ∃ gB, w.heap.size = gB := ⟨_, rfl⟩
  have HgE := Lib.hid hgB
  have HgB : Hid (w.heap.size ≤ gB) := Lib.hid (Nat.le_of_eq hgB)
  have HB0 : Hid (Blok u0 gB 49 #[.slice none 0 0, .int .i64 0, .slice none 0 0, .int .i64 0, .int .i64 0]) := Lib.hid (by rw [← hu0, ← hgB]; exact Blok.new _ _ _ _ rfl)
  have HGu : Hid (Grew w u0) := Lib.hid (by rw [← hu0]; exact (Grew.refl w).alloc _)
  have Hu0 := Lib.hid hu0
  have HN := Lib.hid (bnew_any words bits u0)
  have hl : (List.replicate (clampN words 4096) 0).length = clampN words 4096 := List.length_replicate
  have hpos := (clamp_le words 4096 (by decide)).2
  clear hu0 hgB
  go_enter Tryd.func36, Tryd.ntmps36
  go_wp2_with fail
  rw [Hu0.out, HgE.out]
  clear HgE
  refine HN.out.mono ?_
  rintro e w1 ⟨g, c, rfl, hg1, hur⟩
  rw [hl]
  have HG1 := Lib.hid (HGu.out.trans hg1)
  have hb1 := HB0.out.grew hg1
  have c0 : w1.cell? ⟨g, 0, none⟩ = some (.int .u64 0) := by
    have := row_cells hur 0 (.int .u64 0) (by rw [List.getElem?_map, List.getElem?_replicate, if_pos (by omega)]; rfl)
    simpa using this
  have hgn : g ≠ gB := by
    intro e
    subst e
    have := hb1.cell 0
    rw [c0] at this
    simp at this
  obtain ⟨n, hn⟩ : ∃ n, clampN words 4096 = n := ⟨_, rfl⟩
  have HP : Hid (∀ W, Grew w W → URow W (some ⟨g, 0, none⟩) (List.replicate (clampN words 4096) 0) → SfF w (newF seed words bits) (.returned (.agg #[.slice (some ⟨g, 0, none⟩) n c, .int .i64 (clampN bits 5 : Nat), .slice none 0 0, .int .i64 seed, .int .i64 0])) W) := Lib.hid fun W h1 h2 => ⟨g, c, none, 0, by rw [← hn]; unfold sfC newF; rw [hl]; rfl, h1, h2, Or.inl rfl⟩
  have HUR := Lib.hid hur
  have HB1 := Lib.hid hb1
  have m0 := hb1.cell 0
  have m1 := hb1.cell 1
  have m2 := hb1.cell 2
  have m3 := hb1.cell 3
  have m4 := hb1.cell 4
  simp at m0 m1 m2 m3 m4
  have x0 := hb1.thaw 0
  have x1 := hb1.thaw 1
  have x2 := hb1.thaw 2
  have x3 := hb1.thaw 3
  have x4 := hb1.thaw 4
  have hbl := hb1.lt
  have HGn := Lib.hid hgn
  rw [hn]
  clear hur hb1 hg1 c0 hgn hn hl hpos HB0 Hu0 HN
  obtain ⟨kk, hkk⟩ : ∃ kk, clampN bits 5 = kk := ⟨_, rfl⟩
  rw [hkk] at HP ⊢
  clear hkk
  have hU7 : URow (((((w1.setCell ⟨gB, 0, none⟩ (.slice (some ⟨g, 0, none⟩) n c)).setCell ⟨gB, 1, none⟩ (.int .i64 kk)).setCell ⟨gB, 2, none⟩ (.slice none 0 0)).setCell ⟨gB, 3, none⟩ (.int .i64 seed)).setCell ⟨gB, 4, none⟩ (.int .i64 0)) (some ⟨g, 0, none⟩) (List.replicate (clampN words 4096) 0) := by
    have f0 : ∀ {w' : World} {p : Nat} {v : Value}, URow w' (some ⟨g, 0, none⟩) (List.replicate (clampN words 4096) 0) → URow (w'.setCell ⟨gB, p, none⟩ v) (some ⟨g, 0, none⟩) (List.replicate (clampN words 4096) 0) := fun h => Row.turns h ((Turns.refl _ _).set _ _) (fun a ha => by injection ha with ha; subst ha; exact HGn.out)
    exact f0 (f0 (f0 (f0 (f0 HUR.out))))
  have hG7 : Grew w (((((w1.setCell ⟨gB, 0, none⟩ (.slice (some ⟨g, 0, none⟩) n c)).setCell ⟨gB, 1, none⟩ (.int .i64 kk)).setCell ⟨gB, 2, none⟩ (.slice none 0 0)).setCell ⟨gB, 3, none⟩ (.int .i64 seed)).setCell ⟨gB, 4, none⟩ (.int .i64 0)) := Grew.setCell (Grew.setCell (Grew.setCell (Grew.setCell (Grew.setCell HG1.out HgB.out _) HgB.out _) HgB.out _) HgB.out _) HgB.out _
  have hB7 := Lib.hid (((((HB1.out.set 0 (.slice (some ⟨g, 0, none⟩) n c)).set 1 (.int .i64 kk)).set 2 (.slice none 0 0)).set 3 (.int .i64 seed)).set 4 (.int .i64 0))
  have HPost := Lib.hid (HP.out _ hG7 hU7)
  clear hU7 hG7 HP HUR HB1 HGn HgB HG1 HGu
  go_wp2
  have r0 := hB7.out.cell 0
  have r1 := hB7.out.cell 1
  have r2 := hB7.out.cell 2
  have r3 := hB7.out.cell 3
  have r4 := hB7.out.cell 4
  simp at r0 r1 r2 r3 r4
  exact bodyPost_ret (v := .agg #[.slice (some ⟨g, 0, none⟩) n c, .int .i64 kk, .slice none 0 0, .int .i64 seed, .int .i64 0]) (by simp [results, Tryd.results36, go_sem, r0, r1, r2, r3, r4]) rfl HPost.out
theorem scount_any (A B : Option Addr) (n c m d : Nat) (k seed cnt : Int) (w : World) : Gives Tryd.prog 34 #[.agg #[.slice A n c, .int .i64 k, .slice B m d, .int .i64 seed, .int .i64 cnt]] w (.int .i64 cnt) := by
  unfold Gives
  go_enter Tryd.func34, Tryd.ntmps34
  go_wp2
  go_ret
  exact ⟨rfl, by (show Grew _ _; repeat (first | exact Grew.refl _ | refine Grew.alloc ?_ _ | refine Grew.drew ?_ | refine Grew.more ?_ _))⟩
theorem skey_any (r : List Vl) (ps : List Int) (hp : ps.length ≤ 1000000) (A B : Option Addr) (k c : Nat) (w : World) (ra : VlsR (PRow w) A r) (rb : Row w B (iV ps)) :
    Calls Tryd.prog 31 #[.slice A r.length k, .slice B ps.length c] w (ValsF w (pickL r ps)) := by
  have HP := Lib.hid (pick_any r ps hp A B k c w ra rb)
  obtain ⟨ln, hln⟩ : ∃ ln, (pickL r ps).length = ln := ⟨_, rfl⟩
  unfold ValsF at HP ⊢
  rw [hln] at HP ⊢
  clear ra rb hln
  go_enter Tryd.func31, Tryd.ntmps31
  go_wp2_with fail
  refine HP.out.mono ?_
  rintro e w1 ⟨A1, c1, rfl, hg1, ho1⟩
  have HG1 := Lib.hid hg1
  have HO1 := Lib.hid ho1
  clear hg1 ho1 HP
  go_wp2
  go_ret
  exact ⟨A1, c1, rfl, HG1.out, HO1.out⟩
set_option maxHeartbeats 4000000 in
set_option maxRecDepth 100000 in
theorem passes_gen (Xa : Option Addr) (Xn Xc : Nat) (k seed cnt : Int) (ss : List S) (key : List Vl) (S0 A : Option Addr) (cS kA : Nat) (tH : Bool) (hl : key.length ≤ 1000) (hz : ∀ v ∈ key, v.s.size ≤ 3000) (hk : (keyRowL key).length ≤ 1000000) (w : World) (rs : Row w S0 (flatS ss)) (ra : VlsR (PRow w) A key) (htab : Lib.TabIs Tryd.prog w "internal/strconv.uint64pow10" .u64 Lib.pow10Tab)
    (hH : ∀ W, Grew w W → Gives Tryd.prog 61 #[.agg #[.slice Xa Xn Xc, .int .i64 k], .int .u64 (hashN seed key : Nat)] W (.bool tH)) :
    Gives Tryd.prog 32 #[.agg #[.slice Xa Xn Xc, .int .i64 k, .slice S0 ss.length cS, .int .i64 seed, .int .i64 cnt], .slice A key.length kA] w (.bool (wholeV key && (haveS ss key && tH))) := by
  obtain ⟨u0, hu0⟩ : ∃ u0, w.alloc (.cells #[.slice Xa Xn Xc, .int .i64 k, .slice S0 ss.length cS, .int .i64 seed, .int .i64 cnt] 49) = u0 := ⟨_, rfl⟩
  have HB0 : Hid (Blok u0 w.heap.size 49 #[.slice Xa Xn Xc, .int .i64 k, .slice S0 ss.length cS, .int .i64 seed, .int .i64 cnt]) := Lib.hid (by rw [← hu0]; exact Blok.new _ _ _ _ rfl)
  have HGu : Hid (Grew w u0) := Lib.hid (by rw [← hu0]; exact (Grew.refl w).alloc _)
  have Hu0 := Lib.hid hu0
  have HW : Hid (∀ W, Grew u0 W → Gives Tryd.prog 59 #[.slice A key.length kA] W (.bool (wholeV key))) := Lib.hid fun W hW => whole_any key (by omega) A kA W (ra.grew (HGu.out.trans hW))
  have HHv : Hid (∀ W, Grew u0 W → Gives Tryd.prog 60 #[.slice S0 ss.length cS, .slice A key.length kA] W (.bool (haveS ss key))) := Lib.hid fun W hW => have_any ss key (by omega) S0 A cS kA W (rs.grew (HGu.out.trans hW)) (ra.grew (HGu.out.trans hW))
  have HR : Hid (∀ W, Grew u0 W → Gives Tryd.prog 62 #[.int .i64 seed, .slice A key.length kA] W (.int .u64 (hashN seed key : Nat))) := Lib.hid fun W hW => by
    rw [(hashN_is seed key).1]
    exact row17_any seed key hl hz hk A kA W (ra.grew (HGu.out.trans hW)) (tab_grew htab (HGu.out.trans hW))
  have HH : Hid (∀ W, Grew u0 W → Gives Tryd.prog 61 #[.agg #[.slice Xa Xn Xc, .int .i64 k], .int .u64 (hashN seed key : Nat)] W (.bool tH)) := Lib.hid fun W hW => hH W (HGu.out.trans hW)
  obtain ⟨gB, hgB⟩ : ∃ gB, w.heap.size = gB := ⟨_, rfl⟩
  have HgB := Lib.hid hgB
  rw [hgB] at HB0
  have HCs : Hid (∀ W, Grew u0 W → gB < W.heap.size ∧ W.cell? ⟨gB, 0, none⟩ = some (.slice Xa Xn Xc) ∧ W.cell? ⟨gB, 1, none⟩ = some (.int .i64 k) ∧ W.cell? ⟨gB, 2, none⟩ = some (.slice S0 ss.length cS) ∧ W.cell? ⟨gB, 3, none⟩ = some (.int .i64 seed)) := Lib.hid fun W hW => ⟨(HB0.out.grew hW).lt, (HB0.out.grew hW).cell 0, (HB0.out.grew hW).cell 1, (HB0.out.grew hW).cell 2, (HB0.out.grew hW).cell 3⟩
  clear hu0 hgB rs ra htab hH hz hk
  generalize hashN seed key = hh at *
  generalize wholeV key = tw at *
  generalize haveS ss key = th at *
  unfold Gives
  go_enter Tryd.func32, Tryd.ntmps32
  go_upto_region 1 with fail
  rw [Hu0.out, HgB.out]
  clear Hu0 HgB
  cases tw
  · skip
    refine wp_region_S (fun W => Grew u0 W) (by kernel_rfl) ?_
    refine held_take 0 (v := ?_) rfl (by kernel_rfl) (by kernel_rfl) (by kernel_rfl) (fun _ _ _ h => h) (by rfl) ?_ (Grew.refl u0).drew ?_
    rotate_left
    · (intro W hW; go_simp; with_reducible rfl)
    refine held_norm (a' := ?_) ?_ ?_
    rotate_left
    · (go_simp; with_reducible rfl)
    refine held_call 1 (by kernel_rfl) rfl (by rfl) (fun K hK => ?_)
    go_simp
    go_wp2_with (go_at_call 59; (with_reducible refine (HW.out _ (Grew.refl u0).drew).grows.mono ?_); rintro e w2 ⟨rfl, hg2⟩; have HG2 := Lib.hid (show Grew u0 w2 from ((Grew.refl u0).drew).trans hg2); clear hg2)
    refine hK.out _ _ HG2.out ?_
    clear hK K
    refine held_take 2 (v := ?_) rfl (by kernel_rfl) (by kernel_rfl) (by kernel_rfl) (fun _ _ _ h => h) (by rfl) ?_ HG2.out ?_
    rotate_left
    · (intro W hW; go_simp; with_reducible rfl)
    refine held_norm (a' := ?_) ?_ ?_
    rotate_left
    · (go_simp; with_reducible rfl)
    refine held_skip 3 rfl (by kernel_rfl) (by kernel_rfl) (by kernel_rfl) (fun _ _ _ h => h) (by rfl) HG2.out ?_
    refine held_norm (a' := ?_) ?_ ?_
    rotate_left
    · (go_simp; with_reducible rfl)
    refine held_skip 4 rfl (by kernel_rfl) (by kernel_rfl) (by kernel_rfl) (fun _ _ _ h => h) (by rfl) HG2.out ?_
    refine held_norm (a' := ?_) ?_ ?_
    rotate_left
    · (go_simp; with_reducible rfl)
    refine held_skip 5 rfl (by kernel_rfl) (by kernel_rfl) (by kernel_rfl) (fun _ _ _ h => h) (by rfl) HG2.out ?_
    refine held_norm (a' := ?_) ?_ ?_
    rotate_left
    · (go_simp; with_reducible rfl)
    refine held_skip 6 rfl (by kernel_rfl) (by kernel_rfl) (by kernel_rfl) (fun _ _ _ h => h) (by rfl) HG2.out ?_
    refine held_norm (a' := ?_) ?_ ?_
    rotate_left
    · (go_simp; with_reducible rfl)
    refine held_take 7 (v := ?_) rfl (by kernel_rfl) (by kernel_rfl) (by kernel_rfl) (fun _ _ _ h => h) (by rfl) ?_ HG2.out ?_
    rotate_left
    · (intro W hW; go_simp; with_reducible rfl)
    refine held_take 8 (v := ?_) rfl (by kernel_rfl) (by kernel_rfl) (by kernel_rfl) (fun _ _ _ h => h) (by rfl) ?_ HG2.out ?_
    rotate_left
    · (intro W hW; go_simp; with_reducible rfl)
    refine held_norm (a' := ?_) ?_ ?_
    rotate_left
    · (go_simp; with_reducible rfl)
    refine held_skip 9 rfl (by kernel_rfl) (by kernel_rfl) (by kernel_rfl) (fun _ _ _ h => h) (by rfl) HG2.out ?_
    refine held_norm (a' := ?_) ?_ ?_
    rotate_left
    · (go_simp; with_reducible rfl)
    refine held_skip 10 rfl (by kernel_rfl) (by kernel_rfl) (by kernel_rfl) (fun _ _ _ h => h) (by rfl) HG2.out ?_
    refine held_norm (a' := ?_) ?_ ?_
    rotate_left
    · (go_simp; with_reducible rfl)
    refine held_skip 11 rfl (by kernel_rfl) (by kernel_rfl) (by kernel_rfl) (fun _ _ _ h => h) (by rfl) HG2.out ?_
    refine held_norm (a' := ?_) ?_ ?_
    rotate_left
    · (go_simp; with_reducible rfl)
    refine held_skip 12 rfl (by kernel_rfl) (by kernel_rfl) (by kernel_rfl) (fun _ _ _ h => h) (by rfl) HG2.out ?_
    refine held_norm (a' := ?_) ?_ ?_
    rotate_left
    · (go_simp; with_reducible rfl)
    refine held_skip 13 rfl (by kernel_rfl) (by kernel_rfl) (by kernel_rfl) (fun _ _ _ h => h) (by rfl) HG2.out ?_
    refine held_norm (a' := ?_) ?_ ?_
    rotate_left
    · (go_simp; with_reducible rfl)
    refine held_skip 14 rfl (by kernel_rfl) (by kernel_rfl) (by kernel_rfl) (fun _ _ _ h => h) (by rfl) HG2.out ?_
    refine held_norm (a' := ?_) ?_ ?_
    rotate_left
    · (go_simp; with_reducible rfl)
    refine held_skip 15 rfl (by kernel_rfl) (by kernel_rfl) (by kernel_rfl) (fun _ _ _ h => h) (by rfl) HG2.out ?_
    refine held_norm (a' := ?_) ?_ ?_
    rotate_left
    · (go_simp; with_reducible rfl)
    refine held_take 16 (v := ?_) rfl (by kernel_rfl) (by kernel_rfl) (by kernel_rfl) (fun _ _ _ h => h) (by rfl) ?_ HG2.out ?_
    rotate_left
    · (intro W hW; go_simp; with_reducible rfl)
    refine held_take 17 (v := ?_) rfl (by kernel_rfl) (by kernel_rfl) (by kernel_rfl) (fun _ _ _ h => h) (by rfl) ?_ HG2.out ?_
    rotate_left
    · (intro W hW; go_simp; with_reducible rfl)
    refine held_norm (a' := ?_) ?_ ?_
    rotate_left
    · (go_simp; with_reducible rfl)
    refine held_done (by kernel_rfl) ?_
    go_wp2
    go_ret
    exact ⟨rfl, HGu.out.trans HG2.out⟩
  · cases th
    · skip
      refine wp_region_S (fun W => Grew u0 W) (by kernel_rfl) ?_
      refine held_take 0 (v := ?_) rfl (by kernel_rfl) (by kernel_rfl) (by kernel_rfl) (fun _ _ _ h => h) (by rfl) ?_ (Grew.refl u0).drew ?_
      rotate_left
      · (intro W hW; go_simp; with_reducible rfl)
      refine held_norm (a' := ?_) ?_ ?_
      rotate_left
      · (go_simp; with_reducible rfl)
      refine held_call 1 (by kernel_rfl) rfl (by rfl) (fun K hK => ?_)
      go_simp
      go_wp2_with (go_at_call 59; (with_reducible refine (HW.out _ (Grew.refl u0).drew).grows.mono ?_); rintro e w2 ⟨rfl, hg2⟩; have HG2 := Lib.hid (show Grew u0 w2 from ((Grew.refl u0).drew).trans hg2); clear hg2)
      refine hK.out _ _ HG2.out ?_
      clear hK K
      refine held_take 2 (v := ?_) rfl (by kernel_rfl) (by kernel_rfl) (by kernel_rfl) (fun _ _ _ h => h) (by rfl) ?_ HG2.out ?_
      rotate_left
      · (intro W hW; go_simp; with_reducible rfl)
      refine held_norm (a' := ?_) ?_ ?_
      rotate_left
      · (go_simp; with_reducible rfl)
      refine held_take 3 (v := ?_) rfl (by kernel_rfl) (by kernel_rfl) (by kernel_rfl) (fun _ _ _ h => h) (by rfl) ?_ HG2.out ?_
      rotate_left
      · (intro W hW; go_simp; with_reducible rfl)
      refine held_norm (a' := ?_) ?_ ?_
      rotate_left
      · (go_simp; with_reducible rfl)
      refine held_take 4 (v := ?_) rfl (by kernel_rfl) (by kernel_rfl) (by kernel_rfl) (fun _ _ _ h => h) (by rfl) ?_ HG2.out ?_
      rotate_left
      · (intro W hW; obtain ⟨hbl, _, _, c2, _⟩ := HCs.out W hW; go_simp; with_reducible rfl)
      refine held_norm (a' := ?_) ?_ ?_
      rotate_left
      · (go_simp; with_reducible rfl)
      refine held_take 5 (v := ?_) rfl (by kernel_rfl) (by kernel_rfl) (by kernel_rfl) (fun _ _ _ h => h) (by rfl) ?_ HG2.out ?_
      rotate_left
      · (intro W hW; go_simp; with_reducible rfl)
      refine held_norm (a' := ?_) ?_ ?_
      rotate_left
      · (go_simp; with_reducible rfl)
      refine held_call 6 (by kernel_rfl) rfl (by rfl) (fun K hK => ?_)
      go_simp
      go_wp2_with (go_at_call 60; (with_reducible refine (HHv.out _ HG2.out).grows.mono ?_); rintro e w3 ⟨rfl, hg3⟩; have HG3 := Lib.hid (HG2.out.trans hg3); clear hg3)
      refine hK.out _ _ HG3.out ?_
      clear hK K
      refine held_take 7 (v := ?_) rfl (by kernel_rfl) (by kernel_rfl) (by kernel_rfl) (fun _ _ _ h => h) (by rfl) ?_ HG3.out ?_
      rotate_left
      · (intro W hW; go_simp; with_reducible rfl)
      refine held_take 8 (v := ?_) rfl (by kernel_rfl) (by kernel_rfl) (by kernel_rfl) (fun _ _ _ h => h) (by rfl) ?_ HG3.out ?_
      rotate_left
      · (intro W hW; go_simp; with_reducible rfl)
      refine held_norm (a' := ?_) ?_ ?_
      rotate_left
      · (go_simp; with_reducible rfl)
      refine held_skip 9 rfl (by kernel_rfl) (by kernel_rfl) (by kernel_rfl) (fun _ _ _ h => h) (by rfl) HG3.out ?_
      refine held_norm (a' := ?_) ?_ ?_
      rotate_left
      · (go_simp; with_reducible rfl)
      refine held_skip 10 rfl (by kernel_rfl) (by kernel_rfl) (by kernel_rfl) (fun _ _ _ h => h) (by rfl) HG3.out ?_
      refine held_norm (a' := ?_) ?_ ?_
      rotate_left
      · (go_simp; with_reducible rfl)
      refine held_skip 11 rfl (by kernel_rfl) (by kernel_rfl) (by kernel_rfl) (fun _ _ _ h => h) (by rfl) HG3.out ?_
      refine held_norm (a' := ?_) ?_ ?_
      rotate_left
      · (go_simp; with_reducible rfl)
      refine held_skip 12 rfl (by kernel_rfl) (by kernel_rfl) (by kernel_rfl) (fun _ _ _ h => h) (by rfl) HG3.out ?_
      refine held_norm (a' := ?_) ?_ ?_
      rotate_left
      · (go_simp; with_reducible rfl)
      refine held_skip 13 rfl (by kernel_rfl) (by kernel_rfl) (by kernel_rfl) (fun _ _ _ h => h) (by rfl) HG3.out ?_
      refine held_norm (a' := ?_) ?_ ?_
      rotate_left
      · (go_simp; with_reducible rfl)
      refine held_skip 14 rfl (by kernel_rfl) (by kernel_rfl) (by kernel_rfl) (fun _ _ _ h => h) (by rfl) HG3.out ?_
      refine held_norm (a' := ?_) ?_ ?_
      rotate_left
      · (go_simp; with_reducible rfl)
      refine held_skip 15 rfl (by kernel_rfl) (by kernel_rfl) (by kernel_rfl) (fun _ _ _ h => h) (by rfl) HG3.out ?_
      refine held_norm (a' := ?_) ?_ ?_
      rotate_left
      · (go_simp; with_reducible rfl)
      refine held_take 16 (v := ?_) rfl (by kernel_rfl) (by kernel_rfl) (by kernel_rfl) (fun _ _ _ h => h) (by rfl) ?_ HG3.out ?_
      rotate_left
      · (intro W hW; go_simp; with_reducible rfl)
      refine held_take 17 (v := ?_) rfl (by kernel_rfl) (by kernel_rfl) (by kernel_rfl) (fun _ _ _ h => h) (by rfl) ?_ HG3.out ?_
      rotate_left
      · (intro W hW; go_simp; with_reducible rfl)
      refine held_norm (a' := ?_) ?_ ?_
      rotate_left
      · (go_simp; with_reducible rfl)
      refine held_done (by kernel_rfl) ?_
      go_wp2
      go_ret
      exact ⟨rfl, HGu.out.trans HG3.out⟩
    · skip
      refine wp_region_S (fun W => Grew u0 W) (by kernel_rfl) ?_
      refine held_take 0 (v := ?_) rfl (by kernel_rfl) (by kernel_rfl) (by kernel_rfl) (fun _ _ _ h => h) (by rfl) ?_ (Grew.refl u0).drew ?_
      rotate_left
      · (intro W hW; go_simp; with_reducible rfl)
      refine held_norm (a' := ?_) ?_ ?_
      rotate_left
      · (go_simp; with_reducible rfl)
      refine held_call 1 (by kernel_rfl) rfl (by rfl) (fun K hK => ?_)
      go_simp
      go_wp2_with (go_at_call 59; (with_reducible refine (HW.out _ (Grew.refl u0).drew).grows.mono ?_); rintro e w2 ⟨rfl, hg2⟩; have HG2 := Lib.hid (show Grew u0 w2 from ((Grew.refl u0).drew).trans hg2); clear hg2)
      refine hK.out _ _ HG2.out ?_
      clear hK K
      refine held_take 2 (v := ?_) rfl (by kernel_rfl) (by kernel_rfl) (by kernel_rfl) (fun _ _ _ h => h) (by rfl) ?_ HG2.out ?_
      rotate_left
      · (intro W hW; go_simp; with_reducible rfl)
      refine held_norm (a' := ?_) ?_ ?_
      rotate_left
      · (go_simp; with_reducible rfl)
      refine held_take 3 (v := ?_) rfl (by kernel_rfl) (by kernel_rfl) (by kernel_rfl) (fun _ _ _ h => h) (by rfl) ?_ HG2.out ?_
      rotate_left
      · (intro W hW; go_simp; with_reducible rfl)
      refine held_norm (a' := ?_) ?_ ?_
      rotate_left
      · (go_simp; with_reducible rfl)
      refine held_take 4 (v := ?_) rfl (by kernel_rfl) (by kernel_rfl) (by kernel_rfl) (fun _ _ _ h => h) (by rfl) ?_ HG2.out ?_
      rotate_left
      · (intro W hW; obtain ⟨hbl, _, _, c2, _⟩ := HCs.out W hW; go_simp; with_reducible rfl)
      refine held_norm (a' := ?_) ?_ ?_
      rotate_left
      · (go_simp; with_reducible rfl)
      refine held_take 5 (v := ?_) rfl (by kernel_rfl) (by kernel_rfl) (by kernel_rfl) (fun _ _ _ h => h) (by rfl) ?_ HG2.out ?_
      rotate_left
      · (intro W hW; go_simp; with_reducible rfl)
      refine held_norm (a' := ?_) ?_ ?_
      rotate_left
      · (go_simp; with_reducible rfl)
      refine held_call 6 (by kernel_rfl) rfl (by rfl) (fun K hK => ?_)
      go_simp
      go_wp2_with (go_at_call 60; (with_reducible refine (HHv.out _ HG2.out).grows.mono ?_); rintro e w3 ⟨rfl, hg3⟩; have HG3 := Lib.hid (HG2.out.trans hg3); clear hg3)
      refine hK.out _ _ HG3.out ?_
      clear hK K
      refine held_take 7 (v := ?_) rfl (by kernel_rfl) (by kernel_rfl) (by kernel_rfl) (fun _ _ _ h => h) (by rfl) ?_ HG3.out ?_
      rotate_left
      · (intro W hW; go_simp; with_reducible rfl)
      refine held_take 8 (v := ?_) rfl (by kernel_rfl) (by kernel_rfl) (by kernel_rfl) (fun _ _ _ h => h) (by rfl) ?_ HG3.out ?_
      rotate_left
      · (intro W hW; go_simp; with_reducible rfl)
      refine held_norm (a' := ?_) ?_ ?_
      rotate_left
      · (go_simp; with_reducible rfl)
      refine held_take 9 (v := ?_) rfl (by kernel_rfl) (by kernel_rfl) (by kernel_rfl) (fun _ _ _ h => h) (by rfl) ?_ HG3.out ?_
      rotate_left
      · (intro W hW; go_simp; with_reducible rfl)
      refine held_norm (a' := ?_) ?_ ?_
      rotate_left
      · (go_simp; with_reducible rfl)
      refine held_take 10 (v := ?_) rfl (by kernel_rfl) (by kernel_rfl) (by kernel_rfl) (fun _ _ _ h => h) (by rfl) ?_ HG3.out ?_
      rotate_left
      · (intro W hW; obtain ⟨hbl, c0, c1, _, _⟩ := HCs.out W hW; go_simp; with_reducible rfl)
      refine held_norm (a' := ?_) ?_ ?_
      rotate_left
      · (go_simp; with_reducible rfl)
      refine held_take 11 (v := ?_) rfl (by kernel_rfl) (by kernel_rfl) (by kernel_rfl) (fun _ _ _ h => h) (by rfl) ?_ HG3.out ?_
      rotate_left
      · (intro W hW; go_simp; with_reducible rfl)
      refine held_norm (a' := ?_) ?_ ?_
      rotate_left
      · (go_simp; with_reducible rfl)
      refine held_take 12 (v := ?_) rfl (by kernel_rfl) (by kernel_rfl) (by kernel_rfl) (fun _ _ _ h => h) (by rfl) ?_ HG3.out ?_
      rotate_left
      · (intro W hW; obtain ⟨hbl, _, _, _, c3⟩ := HCs.out W hW; go_simp; with_reducible rfl)
      refine held_norm (a' := ?_) ?_ ?_
      rotate_left
      · (go_simp; with_reducible rfl)
      refine held_take 13 (v := ?_) rfl (by kernel_rfl) (by kernel_rfl) (by kernel_rfl) (fun _ _ _ h => h) (by rfl) ?_ HG3.out ?_
      rotate_left
      · (intro W hW; go_simp; with_reducible rfl)
      refine held_norm (a' := ?_) ?_ ?_
      rotate_left
      · (go_simp; with_reducible rfl)
      refine held_call 14 (by kernel_rfl) rfl (by rfl) (fun K hK => ?_)
      go_simp
      go_wp2_with (go_at_call 62; (with_reducible refine (HR.out _ HG3.out).grows.mono ?_); rintro e w4 ⟨rfl, hg4⟩; have HG4 := Lib.hid (HG3.out.trans hg4); clear hg4)
      refine hK.out _ _ HG4.out ?_
      clear hK K
      refine held_call 15 (by kernel_rfl) rfl (by rfl) (fun K hK => ?_)
      go_simp
      go_wp2_with (go_at_call 61; (with_reducible refine (HH.out _ HG4.out).grows.mono ?_); rintro e w5 ⟨rfl, hg5⟩; have HG5 := Lib.hid (HG4.out.trans hg5); clear hg5)
      refine hK.out _ _ HG5.out ?_
      clear hK K
      refine held_take 16 (v := ?_) rfl (by kernel_rfl) (by kernel_rfl) (by kernel_rfl) (fun _ _ _ h => h) (by rfl) ?_ HG5.out ?_
      rotate_left
      · (intro W hW; go_simp; with_reducible rfl)
      refine held_take 17 (v := ?_) rfl (by kernel_rfl) (by kernel_rfl) (by kernel_rfl) (fun _ _ _ h => h) (by rfl) ?_ HG5.out ?_
      rotate_left
      · (intro W hW; go_simp; with_reducible rfl)
      refine held_norm (a' := ?_) ?_ ?_
      rotate_left
      · (go_simp; with_reducible rfl)
      refine held_done (by kernel_rfl) ?_
      go_wp2
      go_ret
      exact ⟨rfl, HGu.out.trans HG5.out⟩
theorem passes_zero (key : List Vl) (A : Option Addr) (kA : Nat) (hl : key.length ≤ 1000) (hz : ∀ v ∈ key, v.s.size ≤ 3000) (hk : (keyRowL key).length ≤ 1000000) (w : World) (ra : VlsR (PRow w) A key) (htab : Lib.TabIs Tryd.prog w "internal/strconv.uint64pow10" .u64 Lib.pow10Tab) :
    Gives Tryd.prog 32 #[.agg #[.slice none 0 0, .int .i64 0, .slice none 0 0, .int .i64 0, .int .i64 0], .slice A key.length kA] w (.bool false) := by
  have h := passes_gen none 0 0 0 0 0 [] key none A 0 kA false hl hz hk w (Or.inl rfl) ra htab (fun W _ => bhas_zero _ W)
  rwa [Bool.and_false, Bool.and_false] at h
end Go.Proofs.YtklhledcnijchaaDoor

/- Layer 20: the page's example. Condition: the library's table of powers. -/
namespace Go.Proofs.YtklhledcnijchaaDoor
open Go.RowKit
attribute [local go_sem] more_cell more_frozen more_more more_setCell more_of_drew more_of_drewN lt_more le_more past_cell past_cell2 past_frozen past_frozen2 past_setCell past_setCell2 mid_cell mid_frozen mid_setCell
attribute [local go_sem ↓] Go.wp_at_zero Go.wp_at_succ

theorem passes_any (f : Sf) (g c : Nat) (A0 : Option Addr) (cA : Nat) (key : List Vl) (A : Option Addr) (kA : Nat) (h0 : 0 < f.ws.length) (hwl : f.ws.length ≤ 1000000) (hk5 : f.k ≤ 5) (hwo : wordsOk f.ws) (hl : key.length ≤ 1000) (hz : ∀ v ∈ key, v.s.size ≤ 3000) (hk : (keyRowL key).length ≤ 1000000) (w : World) (hw : URow w (some ⟨g, 0, none⟩) f.ws) (hs : Row w A0 (flatS f.ss)) (ra : VlsR (PRow w) A key) (htab : Lib.TabIs Tryd.prog w "internal/strconv.uint64pow10" .u64 Lib.pow10Tab) :
    Gives Tryd.prog 32 #[.agg #[.slice (some ⟨g, 0, none⟩) f.ws.length c, .int .i64 f.k, .slice A0 f.ss.length cA, .int .i64 f.seed, .int .i64 f.cnt], .slice A key.length kA] w (.bool (wholeV key && (haveS f.ss key && hasN f.ws f.k (hashN f.seed key)))) :=
  passes_gen (some ⟨g, 0, none⟩) f.ws.length c f.k f.seed f.cnt f.ss key A0 A cA kA _ hl hz hk w hs ra htab fun W hW => bhas_to f.ws f.k _ f.ws.length g c rfl (hashN_is f.seed key).2 hk5 h0 hwl hwo _ rfl W (hw.grew hW)
def oneR : List Vl := [⟨1, 1, ⟨#[]⟩⟩]
def exF : Sf := addF (newF 4 1 2) [oneR]
theorem one_key : (keyRowL oneR).length ≤ 1000000 := by
  have h := keyRowL_tight oneR (by intro v hv; simp only [oneR, List.mem_cons, List.not_mem_nil, or_false] at hv; subst hv; decide)
  have e : szR oneR = 1 := rfl
  have e2 : oneR.length = 1 := rfl
  rw [e, e2] at h
  omega
theorem nul_key : (keyRowL [nulV]).length ≤ 1000000 := by
  have h := keyRowL_tight [nulV] (by intro v hv; simp only [List.mem_cons, List.not_mem_nil, or_false] at hv; subst hv; decide)
  have e : szR [nulV] = 1 := rfl
  have e2 : ([nulV] : List Vl).length = 1 := rfl
  rw [e, e2] at h
  omega
theorem rws_lone {w : World} {B A : Option Addr} {l : List Vl} {k : Nat} (h : Row w B [.slice A l.length k]) (hk : l.length ≤ k) (h2 : VlsR (PRow w) A l) : RwsR (PRow w) B [l] :=
  ⟨[[.slice A l.length k]], ⟨rfl, fun i x cs hi hd => by
    rcases i with _ | i
    · simp only [List.getElem?_cons_zero, Option.some.injEq] at hi hd
      subst hi hd
      exact ⟨⟨A, k, rfl, hk, h2⟩, rfl⟩
    · simp at hi⟩, by simpa [PRow] using h⟩
theorem numsK_one (seed : Int) (r : List Vl) (h : wholeV r = true) : numsK seed [r] = [hashN seed r] := by
  unfold numsK
  rw [List.filter_cons_of_pos h]
  rfl
attribute [local irreducible] hashN
theorem ex_new : (newF 4 1 2).ws = [0] := rfl
theorem ex_ws : exF.ws = addW (List.replicate 1 0) 2 [hashN 4 oneR] := by
  show addW (List.replicate 1 0) 2 (numsK 4 [oneR]) = _
  rw [numsK_one 4 oneR rfl]
theorem ex_ss : exF.ss = [addS zeroS [toV ⟨1, 1, ⟨#[]⟩⟩]] := rfl
theorem ex_cnt : exF.cnt = 1 := rfl
theorem ex_len : exF.ws.length = 1 := by rw [ex_ws, addW_len]; rfl
theorem ex_passes : (wholeV oneR && (haveS exF.ss oneR && hasN exF.ws exF.k (hashN exF.seed oneR))) = true := by
  have e1 : wholeV oneR = true := rfl
  have e2 : haveS exF.ss oneR = true := by
    rw [ex_ss]
    show (hasS (addS zeroS [toV ⟨1, 1, ⟨#[]⟩⟩]) (toV ⟨1, 1, ⟨#[]⟩⟩) && true) = true
    rw [hasS_mem _ _ (List.mem_singleton.2 rfl)]
    rfl
  have e3 : hasN exF.ws exF.k (hashN exF.seed oneR) = true := by
    rw [show exF.k = 2 from rfl, show exF.seed = 4 from rfl, ex_ws]
    exact has_added 1 2 (by decide) [hashN 4 oneR] (hashN 4 oneR) (List.mem_singleton.2 rfl)
  rw [e1, e2, e3]
  rfl
set_option maxHeartbeats 4000000 in
set_option maxRecDepth 100000 in
theorem live20_any (w : World) (htab : Lib.TabIs Tryd.prog w "internal/strconv.uint64pow10" .u64 Lib.pow10Tab) : Gives Tryd.prog 30 #[] w (.bool true) := by
  have hone : ∀ {W : World} {b : Nat}, Row W (some ⟨b, 0, none⟩) [.int .i64 1, .int .i64 1, .string ⟨#[]⟩] → VlsR (PRow W) (some ⟨b, 0, none⟩) oneR := fun h => vlsR_flat (by simpa [flatV, oneR, vcL] using h)
  have hnul : ∀ {W : World} {b : Nat}, Row W (some ⟨b, 0, none⟩) [.int .i64 0, .int .i64 0, .string ⟨#[]⟩] → VlsR (PRow W) (some ⟨b, 0, none⟩) [nulV] := fun h => vlsR_flat (by simpa [flatV, nulV, vcL] using h)
  obtain ⟨w1, hw1⟩ : ∃ w1, w.alloc (.cells #[.int .i64 1, .int .i64 1, .string ⟨#[]⟩] 31) = w1 := ⟨_, rfl⟩
  have HG1 : Hid (Grew w w1) := Lib.hid (by rw [← hw1]; exact (Grew.refl w).alloc _)
  have HR1 : Hid (Row w1 (some ⟨w.heap.size, 0, none⟩) [.int .i64 1, .int .i64 1, .string ⟨#[]⟩]) := Lib.hid (by rw [← hw1]; exact row_new w _ _ _ rfl)
  have Hw1 := Lib.hid hw1
  have HTab := Lib.hid htab
  have HNew := Lib.hid (snew_any 4 1 2 w1)
  clear hw1 htab
  unfold Gives
  go_enter Tryd.func30, Tryd.ntmps30
  go_wp2_with fail
  rw [Hw1.out]
  clear Hw1
  refine HNew.out.mono ?_
  rintro e w2 ⟨g, c, A0, cA, rfl, hg2, hu2, hs2⟩
  have HG2 := Lib.hid (HG1.out.trans hg2)
  have HU2 := Lib.hid hu2
  have HS2 := Lib.hid hs2
  have HR2 := Lib.hid (HR1.out.grew hg2)
  clear hg2 hu2 hs2 HG1 HR1 HNew
  obtain ⟨gW, hgW⟩ : ∃ gW, w.heap.size = gW := ⟨_, rfl⟩
  rw [hgW] at HR2 ⊢
  clear hgW
  have e0 : sfC (newF 4 1 2) g c A0 cA = [.slice (some ⟨g, 0, none⟩) 1 c, .int .i64 2, .slice A0 0 cA, .int .i64 4, .int .i64 0] := rfl
  rw [e0]
  have hadd : ∀ {W : World} {B : Option Addr} {cB : Nat}, Grew w2 W → RwsR (PRow W) B [oneR] → Calls Tryd.prog 33 #[.agg #[.slice (some ⟨g, 0, none⟩) 1 c, .int .i64 2, .slice A0 0 cA, .int .i64 4, .int .i64 0], .slice B 1 cB] W (SfF W exF) := fun {W B cB} hW h => sadd_any (newF 4 1 2) [oneR] g c A0 B cA cB 0 (by decide) (by decide) (by decide) (by decide) (by intro x hx; rw [ex_new] at hx; simp only [List.mem_cons, List.not_mem_nil, or_false] at hx; subst hx; decide) (by decide) (by intro s hs; cases hs) (by decide) (by decide) (by decide) ⟨by decide, by intro r hr; simp only [List.mem_cons, List.not_mem_nil, or_false] at hr; subst hr; exact ⟨by decide, by intro v hv; simp only [oneR, List.mem_cons, List.not_mem_nil, or_false] at hv; subst hv; decide, one_key⟩⟩ W (HU2.out.grew hW) (HS2.out.grew hW) h (tab_grew HTab.out (HG2.out.trans hW))
  obtain ⟨w3, hw3⟩ : ∃ w3, w2.alloc (.cells #[.slice (some ⟨gW, 0, none⟩) 1 1] 22) = w3 := ⟨_, rfl⟩
  have hg23 : Grew w2 w3 := by rw [← hw3]; exact (Grew.refl _).alloc _
  have HAd := Lib.hid (hadd (B := some ⟨w2.heap.size, 0, none⟩) (cB := 1) hg23 (rws_lone (k := 1) (by rw [← hw3]; exact row_new w2 _ _ _ rfl) (by decide) (hone (HR2.out.grew hg23))))
  have HG3 := Lib.hid (HG2.out.trans hg23)
  have HR3 := Lib.hid (HR2.out.grew hg23)
  have Hw3 := Lib.hid hw3
  clear hadd hg23 hw3 HU2 HS2 HG2 HR2 e0
  go_wp2_with fail
  rw [Hw3.out]
  clear Hw3
  refine HAd.out.mono ?_
  rintro e w4 ⟨g', c', A', cA', rfl, hg4, hu4, hs4⟩
  have e0 : sfC exF g' c' A' cA' = [.slice (some ⟨g', 0, none⟩) 1 c', .int .i64 2, .slice A' 1 cA', .int .i64 4, .int .i64 1] := by
    unfold sfC
    rw [ex_len]
    rfl
  rw [e0]
  have HG4 := Lib.hid (HG3.out.trans hg4)
  have HU4 := Lib.hid hu4
  have HS4 := Lib.hid hs4
  have HR4 := Lib.hid (HR3.out.grew hg4)
  clear hg4 hu4 hs4 e0 HG3 HR3 HAd
  obtain ⟨w5, hw5⟩ : ∃ w5, w4.alloc (.cells #[.slice (some ⟨g', 0, none⟩) 1 c', .int .i64 2, .slice A' 1 cA', .int .i64 4, .int .i64 1] 49) = w5 := ⟨_, rfl⟩
  have hg45 : Grew w4 w5 := by rw [← hw5]; exact (Grew.refl _).alloc _
  have HB5 : Hid (Blok w5 w4.heap.size 49 #[.slice (some ⟨g', 0, none⟩) 1 c', .int .i64 2, .slice A' 1 cA', .int .i64 4, .int .i64 1]) := Lib.hid (by rw [← hw5]; exact Blok.new _ _ _ _ rfl)
  have HP : Hid (∀ (W : World) (l : List Vl) (B : Option Addr) (cB : Nat) (n : Nat) (t : Bool), Grew w4 W → l.length = n → n ≤ 1000 → (∀ v ∈ l, v.s.size ≤ 3000) → (keyRowL l).length ≤ 1000000 → VlsR (PRow W) B l → (wholeV l && (haveS exF.ss l && hasN exF.ws exF.k (hashN exF.seed l))) = t → Gives Tryd.prog 32 #[.agg #[.slice (some ⟨g', 0, none⟩) 1 c', .int .i64 2, .slice A' 1 cA', .int .i64 4, .int .i64 1], .slice B n cB] W (.bool t)) := Lib.hid fun W l B cB n t hW hn hl hz hk hv ht => by
    subst hn
    have h := passes_any exF g' c' A' cA' l B cB (by rw [ex_len]; decide) (by rw [ex_len]; decide) (by decide) (by rw [ex_ws]; exact addW_ok 2 _ (ok_rep 1)) hl hz hk W (HU4.out.grew hW) (HS4.out.grew hW) hv (tab_grew HTab.out (HG4.out.trans hW))
    rw [ht, ex_len] at h
    exact h
  have HP1 := Lib.hid (HP.out w5 oneR (some ⟨gW, 0, none⟩) 1 1 true hg45 rfl (by decide) (by intro v hv; simp only [oneR, List.mem_cons, List.not_mem_nil, or_false] at hv; subst hv; decide) one_key (hone (HR4.out.grew hg45)) ex_passes)
  have HG5 := Lib.hid (HG4.out.trans hg45)
  have HG45 := Lib.hid hg45
  have Hw5 := Lib.hid hw5
  clear hg45 hw5 HU4 HS4 HG4 HR4
  go_wp2_with fail
  rw [Hw5.out]
  clear Hw5
  (with_reducible refine HP1.out.grows.mono ?_)
  rintro e w6 ⟨rfl, hg6⟩
  obtain ⟨w7, hw7⟩ : ∃ w7, w6.alloc (.cells #[.int .i64 0, .int .i64 0, .string ⟨#[]⟩] 31) = w7 := ⟨_, rfl⟩
  have hg67 : Grew w6 w7 := by rw [← hw7]; exact (Grew.refl _).alloc _
  have HR7 : Hid (Row w7 (some ⟨w6.heap.size, 0, none⟩) [.int .i64 0, .int .i64 0, .string ⟨#[]⟩]) := Lib.hid (by rw [← hw7]; exact row_new w6 _ _ _ rfl)
  have HP2 := Lib.hid (HP.out w7 [nulV] (some ⟨w6.heap.size, 0, none⟩) 1 1 false (HG45.out.trans (hg6.trans hg67)) rfl (by decide) (by intro v hv; simp only [List.mem_cons, List.not_mem_nil, or_false] at hv; subst hv; decide) nul_key (hnul HR7.out) rfl)
  have hb6 := HB5.out.grew hg6
  have c0 := hb6.cell 0
  have c1 := hb6.cell 1
  have c2 := hb6.cell 2
  have c3 := hb6.cell 3
  have c4 := hb6.cell 4
  simp at c0 c1 c2 c3 c4
  have hbl := hb6.lt
  have HB6 := Lib.hid hb6
  have HG6 := Lib.hid (HG5.out.trans hg6)
  have HG7 := Lib.hid (HG5.out.trans (hg6.trans hg67))
  have HG67 := Lib.hid hg67
  have Hw7 := Lib.hid hw7
  clear hb6 hg6 hg67 hw7 HP HP1 HB5 HG5 HG45 HR7
  go_wp2_with fail
  rw [Hw7.out]
  (with_reducible refine HP2.out.grows.mono ?_)
  rintro e w8 ⟨rfl, hg8⟩
  have hb8 := HB6.out.grew (HG67.out.trans hg8)
  have d0 := hb8.cell 0
  have d1 := hb8.cell 1
  have d2 := hb8.cell 2
  have d3 := hb8.cell 3
  have d4 := hb8.cell 4
  simp at d0 d1 d2 d3 d4
  have hbl8 := hb8.lt
  have HG8 := Lib.hid (HG7.out.trans hg8)
  have HCn := Lib.hid (scount_any (some ⟨g', 0, none⟩) A' 1 c' 1 cA' 2 4 1 w8)
  clear hb8 hg8 HP2 HB6 HG7 HG67 HG6 Hw7 c0 c1 c2 c3 c4 hbl
  go_wp2_with fail
  (with_reducible refine HCn.out.grows.mono ?_)
  rintro e w9 ⟨rfl, hg9⟩
  have HG9 := Lib.hid (HG8.out.trans hg9)
  clear hg9 HCn
  go_wp2
  go_ret
  exact ⟨rfl, HG9.out⟩
end Go.Proofs.YtklhledcnijchaaDoor

/- Layer 20: what was put is held, in one filter and in two put together. No condition. -/
namespace Go.Proofs.YtklhledcnijchaaDoor
open Go.RowKit
attribute [local irreducible] hashN

/-- The values at a place of the keys that are whole. -/
def colK (keys : List (List Vl)) (i : Nat) : List V := ((keys.filter wholeV).filter fun l => decide (i < l.length)).map fun l => toV (l.getD i nulV)
theorem colK_cons (key : List Vl) (keys : List (List Vl)) (i : Nat) : colK (key :: keys) i = if wholeV key = true ∧ i < key.length then toV (key.getD i nulV) :: colK keys i else colK keys i := by
  unfold colK
  by_cases hw : wholeV key = true
  · rw [List.filter_cons_of_pos hw]
    by_cases hi : i < key.length
    · rw [List.filter_cons_of_pos (by simpa using hi), if_pos ⟨hw, hi⟩]
      rfl
    · rw [List.filter_cons_of_neg (by simpa using hi), if_neg (fun h => hi h.2)]
  · rw [List.filter_cons_of_neg hw, if_neg (fun h => hw h.1)]
theorem withJ_getD (ss : List S) (l : List Vl) (i : Nat) : ∀ j, (withJ ss l j).getD i zeroS = if i < j then addS (ss.getD i zeroS) [toV (l.getD i nulV)] else ss.getD i zeroS
  | 0 => by rw [if_neg (Nat.not_lt_zero i)]; rfl
  | j + 1 => by
    have ih := withJ_getD ss l i j
    have hl := withJ_len ss l j
    show (stepS (withJ ss l j) j (l.getD j nulV)).getD i zeroS = _
    unfold stepS
    obtain ⟨cur, hc⟩ : ∃ cur, (if j < (withJ ss l j).length then withJ ss l j else withJ ss l j ++ [zeroS]) = cur := ⟨_, rfl⟩
    have hg : ∀ q, cur.getD q zeroS = (withJ ss l j).getD q zeroS := fun q => by
      rw [← hc]
      split
      · rfl
      · rw [List.getD_eq_getElem?_getD, List.getD_eq_getElem?_getD, List.getElem?_append]
        split
        · rfl
        · rename_i h
          rw [List.getElem?_eq_none (by omega : (withJ ss l j).length ≤ q)]
          rcases Nat.eq_or_lt_of_le (by omega : (withJ ss l j).length ≤ q) with h1 | h1
          · rw [← h1, Nat.sub_self]; rfl
          · rw [List.getElem?_eq_none (by simp; omega)]
    have hcl : j < cur.length := by
      rw [← hc]
      split
      · assumption
      · rw [List.length_append, List.length_singleton]; omega
    rw [hc]
    rw [List.getD_eq_getElem?_getD, List.getElem?_set]
    by_cases e : j = i
    · subst e
      rw [if_pos rfl, if_pos hcl, Option.getD_some, hg j, if_pos (Nat.lt_succ_self j), ih, if_neg (Nat.lt_irrefl j)]
    · rw [if_neg e, ← List.getD_eq_getElem?_getD, hg i, ih]
      by_cases h1 : i < j
      · rw [if_pos h1, if_pos (by omega)]
      · rw [if_neg h1, if_neg (by omega)]
theorem spansK_cons (ss : List S) (key : List Vl) (keys : List (List Vl)) : spansK ss (key :: keys) = spansK (if wholeV key then withJ ss key key.length else ss) keys := rfl
theorem spansK_getD (i : Nat) : ∀ (keys : List (List Vl)) (ss : List S), (spansK ss keys).getD i zeroS = addS (ss.getD i zeroS) (colK keys i)
  | [], ss => rfl
  | key :: keys, ss => by
    rw [spansK_cons, spansK_getD i keys, colK_cons]
    by_cases hw : wholeV key = true
    · rw [if_pos hw, withJ_getD]
      by_cases hi : i < key.length
      · rw [if_pos hi, if_pos ⟨hw, hi⟩, addS_append]
        rfl
      · rw [if_neg hi, if_neg (fun h => hi h.2)]
    · rw [if_neg hw, if_neg (fun h => hw h.1)]
theorem spansK_len : ∀ (keys : List (List Vl)) (ss : List S), ss.length ≤ (spansK ss keys).length ∧ ∀ r ∈ keys, wholeV r = true → r.length ≤ (spansK ss keys).length
  | [], ss => ⟨Nat.le_refl _, fun r hr => by cases hr⟩
  | key :: keys, ss => by
    rw [spansK_cons]
    obtain ⟨h1, h2⟩ := spansK_len keys (if wholeV key then withJ ss key key.length else ss)
    have h3 : ss.length ≤ (if wholeV key then withJ ss key key.length else ss).length := by
      split
      · rw [withJ_len]; omega
      · exact Nat.le_refl _
    refine ⟨Nat.le_trans h3 h1, fun r hr hw => ?_⟩
    rcases List.mem_cons.1 hr with rfl | hr
    · rw [if_pos hw] at h1
      rw [withJ_len] at h1
      rw [if_pos hw]
      omega
    · exact h2 r hr hw
theorem colK_mem {keys : List (List Vl)} {r : List Vl} (hr : r ∈ keys) (hw : wholeV r = true) {i : Nat} (hi : i < r.length) : toV (r.getD i nulV) ∈ colK keys i := by
  unfold colK
  exact List.mem_map.2 ⟨r, List.mem_filter.2 ⟨List.mem_filter.2 ⟨hr, hw⟩, by simpa using hi⟩, rfl⟩
theorem haveS_of : ∀ (key : List Vl) (ss : List S), key.length ≤ ss.length → (∀ i, i < key.length → hasS (ss.getD i zeroS) (toV (key.getD i nulV)) = true) → haveS ss key = true
  | [], ss, _, _ => by cases ss <;> rfl
  | v :: key, [], h, _ => by simp at h
  | v :: key, s :: ss, h, hx => by
    show (hasS s (toV v) && haveS ss key) = true
    have h0 := hx 0 (by simp)
    have e0 : hasS s (toV v) = true := h0
    rw [e0, haveS_of key ss (by simpa using h) (fun i hi => hx (i + 1) (by simpa using hi))]
    rfl
/-- A filter of new keys. -/
def ofK (seed words bits : Int) (keys : List (List Vl)) : Sf := addF (newF seed words bits) keys
theorem ofK_ss (seed words bits : Int) (keys : List (List Vl)) : (ofK seed words bits keys).ss = spansK [] keys := rfl
theorem ofK_ws (seed words bits : Int) (keys : List (List Vl)) : (ofK seed words bits keys).ws = addW (List.replicate (clampN words 4096) 0) (clampN bits 5) (numsK seed keys) := rfl
theorem ofK_k (seed words bits : Int) (keys : List (List Vl)) : (ofK seed words bits keys).k = clampN bits 5 := rfl
theorem ofK_seed (seed words bits : Int) (keys : List (List Vl)) : (ofK seed words bits keys).seed = seed := rfl
theorem ofK_cnt (seed words bits : Int) (keys : List (List Vl)) : (ofK seed words bits keys).cnt = ((keys.filter wholeV).length : Nat) := Int.zero_add _
theorem ofK_len (seed words bits : Int) (keys : List (List Vl)) : (ofK seed words bits keys).ws.length = clampN words 4096 := by
  rw [ofK_ws, addW_len, List.length_replicate]
theorem ofK_ok (seed words bits : Int) (keys : List (List Vl)) : wordsOk (ofK seed words bits keys).ws := by
  rw [ofK_ws]
  exact addW_ok _ _ (ok_rep _)
theorem ofK_few (seed words bits : Int) {keys : List (List Vl)} (hk : KeysOk keys) : (∀ s ∈ (ofK seed words bits keys).ss, FewN 1000 s) ∧ (ofK seed words bits keys).ss.length ≤ 1000 := by
  have h := spansK_few (m := 0) (ss := []) (keys := keys) (fun s hs => by cases hs) (by decide) hk keys.length (Nat.le_refl _)
  rw [List.take_length] at h
  rw [ofK_ss]
  refine ⟨fun s hs => ?_, h.2⟩
  obtain ⟨h1, h2, h3⟩ := h.1 s hs
  have := hk.1
  exact ⟨h1, h2, by omega⟩
theorem nums_mem {seed : Int} {keys : List (List Vl)} {r : List Vl} (hr : r ∈ keys) (hw : wholeV r = true) : hashN seed r ∈ numsK seed keys := List.mem_map.2 ⟨r, List.mem_filter.2 ⟨hr, hw⟩, rfl⟩
theorem nil_getD (i : Nat) : ([] : List S).getD i zeroS = zeroS := by simp
/-- What was put is held. -/
theorem ofK_holds (seed words bits : Int) {keys : List (List Vl)} {r : List Vl} (hr : r ∈ keys) : (wholeV r && (haveS (ofK seed words bits keys).ss r && hasN (ofK seed words bits keys).ws (ofK seed words bits keys).k (hashN (ofK seed words bits keys).seed r))) = wholeV r := by
  cases hw : wholeV r
  · rfl
  · have h1 : haveS (ofK seed words bits keys).ss r = true := by
      rw [ofK_ss]
      refine haveS_of r _ ((spansK_len keys []).2 r hr hw) (fun i hi => ?_)
      rw [spansK_getD, nil_getD]
      exact hasS_mem _ _ (colK_mem hr hw hi)
    have h2 : hasN (ofK seed words bits keys).ws (ofK seed words bits keys).k (hashN (ofK seed words bits keys).seed r) = true := by
      rw [ofK_ws, ofK_k, ofK_seed]
      exact has_added _ _ (clamp_le words 4096 (by decide)).2 _ _ (nums_mem hr hw)
    rw [h1, h2]
    rfl
/-- What was put into either of two is held by both put together. -/
theorem unF_holds (seed words bits : Int) {ka kb : List (List Vl)} {r : List Vl} (hr : r ∈ ka ∨ r ∈ kb) : (wholeV r && (haveS (unF (ofK seed words bits ka) (ofK seed words bits kb)).ss r && hasN (unF (ofK seed words bits ka) (ofK seed words bits kb)).ws (unF (ofK seed words bits ka) (ofK seed words bits kb)).k (hashN (unF (ofK seed words bits ka) (ofK seed words bits kb)).seed r))) = wholeV r := by
  cases hw : wholeV r
  · rfl
  · have hp := (clamp_le words 4096 (by decide)).2
    have h1 : haveS (unF (ofK seed words bits ka) (ofK seed words bits kb)).ss r = true := by
      show haveS (uniJ (spansK [] ka) (spansK [] kb) (spansK [] kb).length) r = true
      have hlen : r.length ≤ max (spansK [] ka).length (spansK [] kb).length := by
        rcases hr with h | h
        · have := (spansK_len ka []).2 r h hw; omega
        · have := (spansK_len kb []).2 r h hw; omega
      refine haveS_of r _ (by rw [uniJ_len]; exact hlen) (fun i hi => ?_)
      rw [uniJ_getD _ _ _ (Nat.le_refl _), spansK_getD, nil_getD, spansK_getD, nil_getD]
      split
      · rw [addS_union]
        refine hasS_mem _ _ (List.mem_append.2 ?_)
        rcases hr with h | h
        · exact Or.inr (colK_mem h hw hi)
        · exact Or.inl (colK_mem h hw hi)
      · rename_i hn
        rcases hr with h | h
        · exact hasS_mem _ _ (colK_mem h hw hi)
        · have := (spansK_len kb []).2 r h hw
          omega
    have h2 : hasN (unF (ofK seed words bits ka) (ofK seed words bits kb)).ws (unF (ofK seed words bits ka) (ofK seed words bits kb)).k (hashN (unF (ofK seed words bits ka) (ofK seed words bits kb)).seed r) = true := by
      show hasN (unionW (ofK seed words bits ka).ws (ofK seed words bits kb).ws) (clampN bits 5) (hashN seed r) = true
      rcases hr with h | h
      · rw [ofK_ws, ofK_ws]
        exact has_union _ _ hp _ _ _ (nums_mem h hw)
      · rw [unionW_comm _ _ (by rw [ofK_len, ofK_len]), ofK_ws, ofK_ws]
        exact has_union _ _ hp _ _ _ (nums_mem h hw)
    rw [h1, h2]
    rfl
end Go.Proofs.YtklhledcnijchaaDoor

/- Layer 20: what is much, which keys are whole, and how many, as the document says. Condition: rows that lie in memory that is there, in less than what memory holds. -/
namespace Go.Proofs.YtklhledcnijchaaDoor
open Go.RowKit
attribute [local go_sem] more_cell more_frozen more_more more_setCell more_of_drew more_of_drewN lt_more le_more past_cell past_cell2 past_frozen past_frozen2 past_setCell past_setCell2 mid_cell mid_frozen mid_setCell
attribute [local go_sem ↓] Go.wp_at_zero Go.wp_at_succ

theorem infoRw20 : (Tryd.prog.info? 22).map (fun i => (i.zero, i.size, i.bytes)) = some (some (.slice none 0 0), 1, 24) := by kernel_rfl
theorem listR_one20 {α : Type} {R : α → List Value → Prop} {l : List α} {css : List (List Value)} (h : ListR R 1 l css) (p : Value → Prop) (hp : ∀ x cs, R x cs → ∀ u ∈ cs, p u) : ∀ u ∈ css.flatten, p u := by
  intro u hu
  rw [List.mem_flatten] at hu
  obtain ⟨cs, hcs, hu⟩ := hu
  obtain ⟨i, hi, rfl⟩ := List.mem_iff_getElem.1 hcs
  have hl : i < l.length := by rw [← h.1]; exact hi
  exact hp _ _ (h.2 i l[i] css[i] (List.getElem?_eq_getElem hl) (List.getElem?_eq_getElem hi)).1 u hu
theorem rwR_one20 {R : Rw} {x : List Vl} {cs : List Value} (h : RwR R x cs) : ∀ u ∈ cs, u.oneCell' = true := by
  obtain ⟨A, k, rfl, _⟩ := h
  intro u hu
  simp at hu
  subst hu
  rfl
theorem listR_app20 {α : Type} {R : α → List Value → Prop} {size : Nat} {l m : List α} {css dss : List (List Value)} (h : ListR R size l css) (k : ListR R size m dss) : ListR R size (l ++ m) (css ++ dss) := by
  refine ⟨by simp [h.1, k.1], fun j x cs h1 h2 => ?_⟩
  rcases Nat.lt_or_ge j l.length with hj | hj
  · rw [List.getElem?_append_left hj] at h1
    rw [List.getElem?_append_left (by rw [h.1]; exact hj)] at h2
    exact h.2 j x cs h1 h2
  · rw [List.getElem?_append_right hj] at h1
    rw [List.getElem?_append_right (by rw [h.1]; exact hj), h.1] at h2
    exact k.2 _ x cs h1 h2
def WhAt (w : World) (l : List Vl) (t : Bool) (i : Value) (wr : World) : Prop := ∃ j : Nat, j ≤ l.length ∧ i = .int .i64 j ∧ Grew w wr ∧ wholeV (l.drop j) = t
set_option maxHeartbeats 1000000 in
set_option maxRecDepth 100000 in
theorem rwhole_any (l : List Vl) (hl : l.length ≤ 140737488355328) (A : Option Addr) (k : Nat) (w : World) (ra : VlsR (PRow w) A l) :
    Gives Tryd.prog 40 #[.slice A l.length k] w (.bool (wholeV l)) := by
  have RA := Lib.hid ra
  obtain ⟨t, ht⟩ : ∃ t, wholeV l = t := ⟨_, rfl⟩
  have HT0 : Hid (wholeV (l.drop 0) = t) := Lib.hid ht
  rw [ht]
  clear ra ht
  unfold Gives
  go_enter Tryd.func40, Tryd.ntmps40
  go_wp2
  go_loopw [3] (fun i wr => WhAt w l t i wr) (fun i _ => l.length - (intOf i).toNat)
  case atStart => exact ⟨0, Nat.zero_le _, rfl, Grew.refl w, HT0.out⟩
  case round =>
    obtain ⟨j, hj, rfl, hg, hk⟩ := hrel
    have HG := Lib.hid hg
    have HK := Lib.hid hk
    clear hg hk HT0
    by_cases h : j < l.length
    · have hji : (j : Int) < (l.length : Int) := by omega
      have e0 : decide ((j : Int) < (l.length : Int)) = true := decide_eq_true hji
      obtain ⟨b, o, rfl, hb, c0, c1, c2⟩ := vlsR_at (RA.out.grew HG.out) h
      have HS := Lib.hid ((wholeV_drop h).symm.trans HK.out)
      clear HK
      generalize l[j] = v at *
      obtain ⟨vk, vi, vs⟩ := v
      simp only at c0 c1 c2 HS
      by_cases hn : vk = 0
      · have hb0 : (vk == 0) = true := by simpa using hn
        have ht : t = false := by rw [← HS.out, hb0]; rfl
        subst ht
        clear HS
        go_wp2
        go_ret
        exact ⟨rfl, HG.out⟩
      · have hb0 : (vk == 0) = false := by simpa using hn
        have HS2 : Hid (wholeV (l.drop (j + 1)) = t) := Lib.hid (by have := HS.out; rw [hb0] at this; simpa using this)
        clear HS
        go_wp2
        exact ⟨⟨j + 1, by omega, by go_num, HG.out, HS2.out⟩, by simp only [intOf]; omega⟩
    · obtain rfl : j = l.length := by omega
      have e0 : decide ((l.length : Int) < (l.length : Int)) = false := decide_eq_false (by omega)
      have ht : t = true := by rw [← HK.out, List.drop_length]; rfl
      subst ht
      clear HK
      go_wp2
      go_ret
      exact ⟨rfl, HG.out⟩
theorem own_thus20 {w w' : World} {base : Nat} {e : TypeId} {size n : Nat} {v : Value} {xs : List Value} (h : w.ownsRow base e size v n xs) (g : Grew w w') : w'.ownsRow base e size v n xs := by
  obtain ⟨x, rfl⟩ := g
  exact own_more h x
def cntW (l : List (List Vl)) : Nat := (l.filter wholeV).length
theorem cntW_snoc {l : List (List Vl)} {j : Nat} (h : j < l.length) : cntW (l.take (j + 1)) = cntW (l.take j) + if wholeV l[j] then 1 else 0 := by
  unfold cntW
  rw [List.take_succ_eq_append_getElem h, List.filter_append, List.length_append]
  by_cases hw : wholeV l[j] = true
  · rw [List.filter_cons_of_pos hw, if_pos hw]; rfl
  · rw [List.filter_cons_of_neg hw, if_neg hw]; rfl
theorem cntW_le (l : List (List Vl)) : cntW l ≤ l.length := List.length_filter_le _ _
def WsAt (w : World) (l : List (List Vl)) (v i : Value) (wr : World) : Prop :=
  ∃ (j : Nat) (A : Option Addr) (c : Nat) (xs : List Value), j ≤ l.length ∧ i = .int .i64 j ∧ v = .slice A (cntW (l.take j)) c ∧ Grew w wr ∧ wr.ownsRow w.heap.size 22 1 (.slice A (cntW (l.take j)) c) (cntW (l.take j)) xs
set_option maxHeartbeats 4000000 in
set_option maxRecDepth 100000 in
theorem wholes_any (l : List (List Vl)) (hl : l.length ≤ 1000000) (hr : ∀ r ∈ l, r.length ≤ 1000000) (A : Option Addr) (k : Nat) (w : World) (ra : RwsR (PRow w) A l) :
    Calls Tryd.prog 70 #[.slice A l.length k] w fun e w' => ∃ A k, e = .returned (.slice A (cntW l) k) ∧ Grew w w' := by
  have RA := Lib.hid ra
  have HR := Lib.hid hr
  clear ra hr
  go_enter Tryd.func70, Tryd.ntmps70
  go_wp2
  go_loopw [3, 4] (fun v i wr => WsAt w l v i wr) (fun _ i _ => l.length - (intOf i).toNat)
  case atStart => exact ⟨0, none, 0, [], Nat.zero_le _, rfl, rfl, Grew.refl w, own_none _ _ _ 1⟩
  case round =>
    obtain ⟨j, S, c, xs, hj, rfl, rfl, hg, ho⟩ := hrel
    have HG := Lib.hid hg
    have HO := Lib.hid ho
    clear hg ho
    by_cases h : j < l.length
    · have hji : (j : Int) < (l.length : Int) := by omega
      have e0 : decide ((j : Int) < (l.length : Int)) = true := decide_eq_true hji
      obtain ⟨pb, po, PA, ka, rfl, hpb, c0, hka, hva⟩ := rwsR_at (RA.out.grew HG.out) h
      have HSt := Lib.hid (cntW_snoc h)
      have hcl := Nat.le_trans (cntW_le (l.take j)) (List.length_take_le j l)
      have HW := Lib.hid (rwhole_any l[j] (Nat.le_trans (HR.out _ (List.getElem_mem h)) (by decide)) PA ka wr hva)
      clear hka hva
      generalize cntW (l.take j) = m at *
      generalize l[j] = x at *
      obtain ⟨t, ht⟩ : ∃ t, wholeV x = t := ⟨_, rfl⟩
      rw [ht] at HSt HW
      clear ht
      cases t
      · have hm : cntW (l.take (j + 1)) = m := by rw [HSt.out]; rfl
        have HM := Lib.hid hm
        clear hm HSt
        go_wp2_with fail
        (with_reducible refine HW.out.grows.mono ?_)
        rintro e w2 ⟨rfl, hg2⟩
        have HG2 := Lib.hid (HG.out.trans hg2)
        have HO2 := Lib.hid (own_thus20 HO.out hg2)
        clear hg2 HW HG HO
        go_wp2
        exact ⟨⟨j + 1, S, c, xs, by omega, by go_num, by rw [HM.out], HG2.out, by rw [HM.out]; exact HO2.out⟩, by simp only [intOf]; omega⟩
      · have hm : cntW (l.take (j + 1)) = m + 1 := by rw [HSt.out]; rfl
        have HM := Lib.hid hm
        clear hm HSt
        go_wp2_with fail
        (with_reducible refine HW.out.grows.mono ?_)
        rintro e w2 ⟨rfl, hg2⟩
        have HG2 := Lib.hid (HG.out.trans hg2)
        have HO2 := Lib.hid (own_thus20 HO.out hg2)
        have c2 := hg2.cell (a := ⟨pb, po + j, none⟩) hpb
        rw [c0] at c2
        have hpb2 := Nat.lt_of_lt_of_le hpb hg2.size
        clear hg2 HW HG HO c0 hpb
        go_wp2_with (at_builtin; refine wpList_apps rfl _ _ 24 22 1 rfl w (.slice none 0 0) 24 Tryd.underlying24 infoRw20 rfl (by decide) (by decide) _ m xs rfl (own_alloc HO2.out _) _ 1 1 [.slice PA x.length ka] rfl rfl (row_new _ _ _ _ rfl) (by simp [Value.oneCell']) (by omega) (HG2.out.alloc _) ?_; intro A3 c3 w3 ho3 _ hg3 _ _; have HO3 := Lib.hid ho3; have HG3 := Lib.hid hg3; clear ho3 hg3)
        exact ⟨⟨j + 1, A3, c3, _, by omega, by go_num, by rw [HM.out], HG3.out, by rw [HM.out]; exact HO3.out⟩, by simp only [intOf]; omega⟩
    · obtain rfl : j = l.length := by omega
      have e0 : decide ((l.length : Int) < (l.length : Int)) = false := decide_eq_false (by omega)
      rw [List.take_length]
      have HX : Hid (∃ A k, Ending.returned (.slice S (cntW l) c) = .returned (.slice A (cntW l) k) ∧ Grew w wr) := Lib.hid ⟨S, c, rfl, HG.out⟩
      clear HO
      go_wp2
      go_ret
      exact HX.out
theorem rcount20_any (l : List (List Vl)) (hl : l.length ≤ 1000000) (hr : ∀ r ∈ l, r.length ≤ 1000000) (A : Option Addr) (k : Nat) (w : World) (ra : RwsR (PRow w) A l) :
    Gives Tryd.prog 39 #[.slice A l.length k] w (.int .i64 (cntW l : Nat)) := by
  have HW := Lib.hid (wholes_any l hl hr A k w ra)
  clear ra
  generalize cntW l = m at *
  unfold Gives
  go_enter Tryd.func39, Tryd.ntmps39
  go_wp2_with fail
  refine HW.out.mono ?_
  rintro e w2 ⟨S, c, rfl, hg2⟩
  have HG2 := Lib.hid hg2
  clear hg2 HW
  go_wp2
  go_ret
  exact ⟨rfl, HG2.out⟩
theorem code20_any (e : Int) (w : World) : Gives Tryd.prog 38 #[.int .i64 e] w (.int .i64 e) := by
  unfold Gives
  go_enter Tryd.func38, Tryd.ntmps38
  go_wp2
  go_ret
  exact ⟨rfl, by (show Grew _ _; repeat (first | exact Grew.refl _ | refine Grew.alloc ?_ _ | refine Grew.drew ?_ | refine Grew.more ?_ _))⟩
/-- append, up to what memory holds. -/
theorem wpList_appW20 {P : Program} {w : World} {ops : Array Oper} {rest : List Oper} {o : Oper} {a : Act} {Q : Exit → Act → World → Prop} (hgd : o.guard = none) (s x : Operand) (t e : TypeId) (size : Nat)
    (ho : o.op = .call { callee := .builtin .append, args := #[s, x], argTypes := #[t, t] })
    (u : World) (z : Value) (bytes : Nat) (ht : P.underlying t = some (.slice e)) (hi : (P.info? e).map (fun i => (i.zero, i.size, i.bytes)) = some (some z, size, bytes)) (hzs : z.cells.size = size) (hsz : 0 < size)
    (v : Value) (n : Nat) (xs : List Value) (hs : a.eval s = v) (hown : w.ownsRow u.heap.size e size v n xs)
    (A : Option Addr) (m c : Nat) (news : List Value) (hx : a.eval x = .slice A m c) (hl : news.length = m * size) (hr : Row w A news) (h1 : ∀ u ∈ news, u.oneCell' = true)
    (h63 : n + m ≤ maxLen) (hbb : (n + m) * bytes ≤ 140737488355328) (hg : Grew u w)
    (h : ∀ A' c' w', w'.ownsRow u.heap.size e size (.slice A' (n + m) c') (n + m) (xs ++ news) → Row w' A' (xs ++ news) → Grew u w' → wpList P ops Q rest (a.put o.dst (.slice A' (n + m) c')) w') : wpList P ops Q (o :: rest) a w := by
  obtain ⟨i, hi0, hz, hs1, hb⟩ := info_parts hi
  refine wpList_append_row w hgd s x t ho u.heap.size e i z size bytes ht hi0 hz hs1 hb hzs hsz v n xs hs hown A m c news hx hl hr h1 h63 hbb hg.size ?_
  intro A' c' w' ho' hr' hgb _
  exact h A' c' w' ho' hr' (hg.grown hgb (own_base hown))
theorem nil_row {w : World} : RwR (PRow w) ([] : List Vl) [.slice none 0 0] := ⟨none, 0, rfl, Nat.le_refl _, vlsR_flat (Or.inl rfl)⟩
set_option maxHeartbeats 4000000 in
set_option maxRecDepth 100000 in
theorem much20_any (l : List (List Vl)) (hl : RwsOk l) (hb : l.length * 24 ≤ 140737488351232) (n : Int) (A : Option Addr) (k : Nat) (w : World) (h : RwsR (PRow w) A l) :
    Calls Tryd.prog 35 #[.slice A l.length k, .slice none 0 0, .int .i64 n] w (MuchR w (goodRws ([] :: l) ∧ n ≤ 40)) := by
  obtain ⟨css, hls, hrow⟩ := h
  have hfl : css.flatten.length = l.length := by have := hls.flat; omega
  have H1 : Hid (∀ u ∈ css.flatten, u.oneCell' = true) := Lib.hid (listR_one20 hls _ fun x cs hx => rwR_one20 hx)
  have HM : Hid (∀ W S c, Grew w W → Row W S ([.slice none 0 0] ++ css.flatten) → Calls Tryd.prog 8 #[.slice S (1 + l.length) c] W (MuchR W (goodRws ([] :: l)))) := Lib.hid fun W S c hW hr => by
    have hx := much4_any ([] :: l) ⟨by rw [List.length_cons]; omega, by intro x hx; rcases List.mem_cons.1 hx with rfl | hx; exact ⟨Nat.zero_le _, fun v hv => by cases hv⟩; exact hl.2 x hx⟩ S c W ⟨[[.slice none 0 0]] ++ css, by
      have h1 : ListR (RwR (PRow W)) 1 [([] : List Vl)] [[.slice none 0 0]] := ⟨rfl, fun i x cs hi hd => by
        rcases i with _ | i
        · simp only [List.getElem?_cons_zero, Option.some.injEq] at hi hd
          subst hi hd
          exact ⟨nil_row, rfl⟩
        · simp at hi⟩
      exact listR_app20 h1 (hls.map fun x cs hx => hx.imp fun _ _ _ h => h.grew hW), by simpa [PRow] using hr⟩
    rwa [List.length_cons, Nat.add_comm] at hx
  have HRw := Lib.hid hrow
  have HFl := Lib.hid hfl
  clear hls hrow hfl hl
  generalize css.flatten = M at *
  go_enter Tryd.func35, Tryd.ntmps35
  go_wp2_with (at_builtin; refine wpList_appW20 rfl (.tmp 8) (.tmp 9) 24 22 1 rfl w (.slice none 0 0) 24 Tryd.underlying24 infoRw20 rfl (by decide) _ 1 [.slice none 0 0] rfl (own_one w w.heap.size _ _ _ rfl (Nat.le_refl _)) A l.length k M rfl (by rw [HFl.out, Nat.mul_one]) (HRw.out.grew ((Grew.refl w).alloc _)) H1.out (by unfold maxLen; omega) (by omega) ((Grew.refl w).alloc _) ?_; intro A3 c3 w3 _ hr3 hg3; have HR3 := Lib.hid hr3; have HG3 := Lib.hid hg3; clear hr3 hg3)
  refine (HM.out w3 A3 c3 HG3.out HR3.out).mono ?_
  rintro e w4 ⟨t, rfl, hg4, h4⟩
  have HG4 := Lib.hid (HG3.out.trans hg4)
  have H4 := Lib.hid h4
  clear hg4 h4 HG3 HR3 HM HRw HFl H1
  cases t
  · by_cases hn : 40 < n
    · have e0 : decide ((40 : Int) < n) = true := decide_eq_true hn
      go_wp2
      go_ret
      exact muchR_true _ HG4.out
    · have e0 : decide ((40 : Int) < n) = false := decide_eq_false hn
      have hx : goodRws ([] :: l) ∧ n ≤ 40 := ⟨H4.out rfl, by omega⟩
      have HX := Lib.hid hx
      clear hx H4
      go_wp2
      go_ret
      exact muchR_false HG4.out HX.out
  · clear H4
    go_wp2
    go_ret
    exact muchR_true _ HG4.out
end Go.Proofs.YtklhledcnijchaaDoor

/- Layer 20: the law of what a filter keeps. Condition: rows that lie in memory that is there, in less than what memory holds; the library's table of powers. -/
namespace Go.Proofs.YtklhledcnijchaaDoor
open Go.RowKit
attribute [local go_sem] more_cell more_frozen more_more more_setCell more_of_drew more_of_drewN lt_more le_more past_cell past_cell2 past_frozen past_frozen2 past_setCell past_setCell2 mid_cell mid_frozen mid_setCell
attribute [local go_sem ↓] Go.wp_at_zero Go.wp_at_succ
attribute [local irreducible] hashN

section
variable {P : Program} {ops : Array Oper} {Q : Exit → Act → World → Prop} {wc : World} {S : World → Prop}
/-- Two operations are ready. -/
theorem held_both (i j : Nat) {oi oj : Oper} {fuel : Nat} {listed : Array Bool} {a : Act} (hr : Region.ready .any ops listed = [i, j]) (hoi : ops[i]? = some oi) (hoj : ops[j]? = some oj) (hwi : Region.wanted oi (yielded ops a.tmps) = true) (hwj : Region.wanted oj (yielded ops a.tmps) = true)
    (hi : ∀ K' : Act → World → Prop, Hid (∀ a W, S W → wpAnyH P .any ops Q S fuel (listed.setIfInBounds i true) a W → K' a W) → Oper.wp P oi a wc K' Q)
    (hj : ∀ K' : Act → World → Prop, Hid (∀ a W, S W → wpAnyH P .any ops Q S fuel (listed.setIfInBounds j true) a W → K' a W) → Oper.wp P oj a wc K' Q) : wpAnyH P .any ops Q S (fuel + 1) listed a wc := by
  refine wpAnyH_ready hr (by simp) (AllReadyH.cons hoi (fun K' hK => ?_) (AllReadyH.cons hoj (fun K' hK => ?_) AllReadyH.nil))
  · rw [if_pos hwi]
    exact hi K' (Lib.hid fun a W hG hW => hK.out a W hG (fun _ => hW))
  · rw [if_pos hwj]
    exact hj K' (Lib.hid fun a W hG hW => hK.out a W hG (fun _ => hW))
end
theorem keys_ok {l : List (List Vl)} (h : goodRws ([] :: l)) : KeysOk l := by
  obtain ⟨h1, h2, h3⟩ := h
  rw [List.length_cons] at h1
  refine ⟨by omega, fun r hr => ?_⟩
  have hsz : szR r ≤ szRs ([] :: l) := by
    have : ∀ {m : List (List Vl)}, r ∈ m → szR r ≤ szRs m := by
      intro m hm
      induction m with
      | nil => cases hm
      | cons x m ih =>
        have e : szRs (x :: m) = szR x + szRs m := by simp [szRs]
        rcases List.mem_cons.1 hm with rfl | hm
        · omega
        · have := ih hm
          omega
    exact this (List.mem_cons_of_mem _ hr)
  have hg := good_row (l := r) ⟨by simp, by intro x hx; simp only [List.mem_cons, List.not_mem_nil, or_false] at hx; subst hx; exact h2 _ (List.mem_cons_of_mem _ hr), by simp only [szRs, List.map_cons, List.map_nil, List.sum_cons, List.sum_nil]; omega⟩
  exact ⟨by omega, hg.2.1, by omega⟩
theorem xor_one_ne (s : Int) : bits .xor .i64 s 1 ≠ s := by
  intro h
  have hw : ∀ z : Int, BitVec.ofInt 64 (IntKind.i64.wrap z) = BitVec.ofInt 64 z := fun z => by
    apply BitVec.eq_of_toNat_eq
    rw [BitVec.toNat_ofInt, BitVec.toNat_ofInt]
    first
    | (rw [IntKind.wrap_i64]; unfold wrap64; omega)
    | (rw [IntKind.wrap_i64]; omega)
    | (unfold IntKind.wrap; simp [IntKind.signed, IntKind.bits]; omega)
  have h' : IntKind.i64.wrap ((BitVec.ofInt 64 s ^^^ BitVec.ofInt 64 1).toNat : Int) = s := h
  have h2 := congrArg (BitVec.ofInt 64) h'
  rw [hw, BitVec.ofInt_natCast, BitVec.ofNat_toNat, BitVec.setWidth_eq] at h2
  have h3 := congrArg (fun x => x.getLsbD 0) h2
  simp at h3
theorem row_u64 {w : World} {g : Nat} {ws : List Nat} (h : URow w (some ⟨g, 0, none⟩) ws) (hp : 0 < ws.length) : ∃ x : Int, w.cell? ⟨g, 0, none⟩ = some (.int .u64 x) := by
  have := row_cells h 0 (.int .u64 ((ws[0]'hp : Nat) : Int)) (by rw [List.getElem?_map, List.getElem?_eq_getElem hp]; rfl)
  exact ⟨_, by simpa using this⟩
theorem spans_apart {w : World} {S0 : Option Addr} {ss : List S} {g n c n' c' : Nat} {A A' : Option Addr} {k l m : Int} (h : Row w S0 (flatS ss)) (hz : Blok w g 49 #[.slice A n c, .int .i64 k, .slice A' n' c', .int .i64 l, .int .i64 m]) : flatS ss = [] ∨ ∀ a, S0 = some a → a.block ≠ g := by
  rcases h with h | ⟨b, o, hA, hb, hc⟩
  · exact Or.inl h
  · rcases ss with _ | ⟨s, ss⟩
    · exact Or.inl rfl
    · refine Or.inr fun a ha e => ?_
      rw [hA] at ha
      injection ha with ha
      subst ha
      have e2 : b = g := e
      subst e2
      have h2 := hc 2 (.string s.low.s) rfl
      rw [hz.cell (o + 2)] at h2
      rcases o with _ | _ | _ | o
      · simp at h2
      · simp at h2
      · simp at h2
      · rw [show o + 1 + 1 + 1 + 2 = o + 5 by omega] at h2
        simp at h2
def KpAt (u : World) (n : Nat) (i : Value) (wr : World) : Prop := ∃ j : Nat, j ≤ n ∧ i = .int .i64 j ∧ Grew u wr
set_option maxHeartbeats 32000000 in
set_option maxRecDepth 100000 in
theorem siftKeeps_walk (seed words nb : Int) (ka kb : List (List Vl)) (A B : Option Addr) (cA cB : Nat) (w : World) (ha : RwsOk ka) (hb : RwsOk kb) (hba : ka.length * 24 ≤ 140737488351232) (hbb : kb.length * 24 ≤ 140737488351232) (ra : RwsR (PRow w) A ka) (rb : RwsR (PRow w) B kb) (htab : Lib.TabIs Tryd.prog w "internal/strconv.uint64pow10" .u64 Lib.pow10Tab) :
    Gives Tryd.prog 7 #[.int .i64 seed, .int .i64 words, .int .i64 nb, .slice A ka.length cA, .slice B kb.length cB] w (.bool true) := by
  have HMa := Lib.hid (much20_any ka ha hba words A cA w ra)
  have HMb : Hid (∀ W, Grew w W → Calls Tryd.prog 35 #[.slice B kb.length cB, .slice none 0 0, .int .i64 words] W (MuchR W (goodRws ([] :: kb) ∧ words ≤ 40))) := Lib.hid fun W hW => much20_any kb hb hbb words B cB W (rb.grew hW)
  have HLive : Hid (∀ W, Grew w W → Gives Tryd.prog 30 #[] W (.bool true)) := Lib.hid fun W hW => live20_any W (tab_grew htab hW)
  have RA := Lib.hid ra
  have RB := Lib.hid rb
  have HTab := Lib.hid htab
  have HXor := Lib.hid (xor_one_ne seed)
  clear ra rb htab ha hb hba hbb
  unfold Gives
  go_enter Tryd.func7, Tryd.ntmps7
  go_wp2_with fail
  refine HMa.out.mono ?_
  rintro e w1 ⟨t, rfl, hg1, h1⟩
  have HG1 := Lib.hid hg1
  cases t
  rotate_left
  · clear h1 hg1
    go_wp2_with (go_at_call 30; (with_reducible refine (HLive.out _ HG1.out).grows.mono ?_); rintro e w5 ⟨rfl, hg5⟩; have HG5 := Lib.hid (show Grew w w5 from HG1.out.trans hg5); clear hg5)
    go_ret
    exact ⟨rfl, HG5.out⟩
  have HKa := Lib.hid (keys_ok (h1 rfl).1)
  clear h1 hg1 HMa
  go_wp2_with fail
  refine (HMb.out w1 HG1.out).mono ?_
  rintro e w2 ⟨t, rfl, hg2, h1⟩
  have HG2 := Lib.hid (HG1.out.trans hg2)
  cases t
  rotate_left
  · clear h1 hg2
    go_wp2_with (go_at_call 30; (with_reducible refine (HLive.out _ HG2.out).grows.mono ?_); rintro e w5 ⟨rfl, hg5⟩; have HG5 := Lib.hid (show Grew w w5 from HG2.out.trans hg5); clear hg5)
    go_ret
    exact ⟨rfl, HG5.out⟩
  have HKb := Lib.hid (keys_ok (h1 rfl).1)
  clear h1 hg2 HMb HG1
  have ⟨hn1, hn0⟩ := clamp_le words 4096 (by decide)
  have ⟨hk1, hk0⟩ := clamp_le nb 5 (by decide)
  have hla := HKa.out.1
  have hlb := HKb.out.1
  have hca := cntW_le ka
  have hcb := cntW_le kb
  have HN : Hid (∀ W (sd : Int), Calls Tryd.prog 36 #[.int .i64 sd, .int .i64 words, .int .i64 nb] W fun e w' => ∃ g c S cS, e = .returned (.agg #[.slice (some ⟨g, 0, none⟩) (clampN words 4096) c, .int .i64 (clampN nb 5 : Nat), .slice S 0 cS, .int .i64 sd, .int .i64 0]) ∧ Grew W w' ∧ URow w' (some ⟨g, 0, none⟩) (List.replicate (clampN words 4096) 0)) := Lib.hid fun W sd => by
    refine (snew_any sd words nb W).mono ?_
    rintro e w' ⟨g, c, S, cS, rfl, h1, h2, h3⟩
    refine ⟨g, c, S, cS, ?_, h1, h2⟩
    unfold sfC newF
    rw [List.length_replicate]
    rfl
  have HAd : Hid (∀ W (keys : List (List Vl)) (g c : Nat) (S T : Option Addr) (cS cT : Nat), Grew w W → KeysOk keys → URow W (some ⟨g, 0, none⟩) (List.replicate (clampN words 4096) 0) → RwsR (PRow W) T keys → Calls Tryd.prog 33 #[.agg #[.slice (some ⟨g, 0, none⟩) (clampN words 4096) c, .int .i64 (clampN nb 5 : Nat), .slice S 0 cS, .int .i64 seed, .int .i64 0], .slice T keys.length cT] W fun e w' => ∃ g' c' S' cS', e = .returned (.agg #[.slice (some ⟨g', 0, none⟩) (clampN words 4096) c', .int .i64 (clampN nb 5 : Nat), .slice S' (ofK seed words nb keys).ss.length cS', .int .i64 seed, .int .i64 (cntW keys : Nat)]) ∧ Grew W w' ∧ URow w' (some ⟨g', 0, none⟩) (ofK seed words nb keys).ws ∧ Row w' S' (flatS (ofK seed words nb keys).ss)) := Lib.hid fun W keys g c S T cS cT hW hk hu hr => by
    have hx := sadd_any (newF seed words nb) keys g c S T cS cT 0 (by show 0 < (List.replicate _ 0).length; rw [List.length_replicate]; omega) (by show (List.replicate _ 0).length ≤ _; rw [List.length_replicate]; omega) (by show 0 < clampN nb 5; omega) hk1 (ok_rep _) (Nat.zero_le _) (fun s hs => by cases hs) (by decide) (by show (0 : Int) ≤ 0; decide) (by show (0 : Int) ≤ 1000000; decide) hk W hu (Or.inl rfl) hr (tab_grew HTab.out hW)
    have e0 : (newF seed words nb).ws.length = clampN words 4096 := List.length_replicate
    rw [e0] at hx
    refine hx.mono ?_
    rintro e w' ⟨g', c', S', cS', rfl, h1, h2, h3⟩
    refine ⟨g', c', S', cS', ?_, h1, h2, h3⟩
    show Ending.returned (.agg (sfC (ofK seed words nb keys) g' c' S' cS').toArray) = _
    unfold sfC
    rw [ofK_len, ofK_k, ofK_seed, ofK_cnt]
    rfl
  have HAa : Hid (∀ W (g c : Nat) (S : Option Addr) (cS : Nat), Grew w W → URow W (some ⟨g, 0, none⟩) (List.replicate (clampN words 4096) 0) → Calls Tryd.prog 33 #[.agg #[.slice (some ⟨g, 0, none⟩) (clampN words 4096) c, .int .i64 (clampN nb 5 : Nat), .slice S 0 cS, .int .i64 seed, .int .i64 0], .slice A ka.length cA] W fun e w' => ∃ g' c' S' cS', e = .returned (.agg #[.slice (some ⟨g', 0, none⟩) (clampN words 4096) c', .int .i64 (clampN nb 5 : Nat), .slice S' (ofK seed words nb ka).ss.length cS', .int .i64 seed, .int .i64 (cntW ka : Nat)]) ∧ Grew W w' ∧ URow w' (some ⟨g', 0, none⟩) (ofK seed words nb ka).ws ∧ Row w' S' (flatS (ofK seed words nb ka).ss)) := Lib.hid fun W g c S cS hW hu => HAd.out W ka g c S A cS cA hW HKa.out hu (RA.out.grew hW)
  have HAb0 : Hid (∀ W (g c : Nat) (S : Option Addr) (cS : Nat), Grew w W → URow W (some ⟨g, 0, none⟩) (List.replicate (clampN words 4096) 0) → Calls Tryd.prog 33 #[.agg #[.slice (some ⟨g, 0, none⟩) (clampN words 4096) c, .int .i64 (clampN nb 5 : Nat), .slice S 0 cS, .int .i64 seed, .int .i64 0], .slice B kb.length cB] W fun e w' => ∃ g' c' S' cS', e = .returned (.agg #[.slice (some ⟨g', 0, none⟩) (clampN words 4096) c', .int .i64 (clampN nb 5 : Nat), .slice S' (ofK seed words nb kb).ss.length cS', .int .i64 seed, .int .i64 (cntW kb : Nat)]) ∧ Grew W w' ∧ URow w' (some ⟨g', 0, none⟩) (ofK seed words nb kb).ws ∧ Row w' S' (flatS (ofK seed words nb kb).ss)) := Lib.hid fun W g c S cS hW hu => HAd.out W kb g c S B cS cB hW HKb.out hu (RB.out.grew hW)
  have HUn0 : Hid (∀ W (ga c gb d : Nat) (S T : Option Addr) (cS cT : Nat), URow W (some ⟨ga, 0, none⟩) (ofK seed words nb ka).ws → Row W S (flatS (ofK seed words nb ka).ss) → URow W (some ⟨gb, 0, none⟩) (ofK seed words nb kb).ws → Row W T (flatS (ofK seed words nb kb).ss) →
      Calls Tryd.prog 37 #[.agg #[.slice (some ⟨ga, 0, none⟩) (clampN words 4096) c, .int .i64 (clampN nb 5 : Nat), .slice S (ofK seed words nb ka).ss.length cS, .int .i64 seed, .int .i64 (cntW ka : Nat)], .agg #[.slice (some ⟨gb, 0, none⟩) (clampN words 4096) d, .int .i64 (clampN nb 5 : Nat), .slice T (ofK seed words nb kb).ss.length cT, .int .i64 seed, .int .i64 (cntW kb : Nat)]] W fun e w' => ∃ g' c' S' cS', e = .returned (.tuple #[.agg #[.slice (some ⟨g', 0, none⟩) (clampN words 4096) c', .int .i64 (clampN nb 5 : Nat), .slice S' (unF (ofK seed words nb ka) (ofK seed words nb kb)).ss.length cS', .int .i64 seed, .int .i64 ((cntW ka : Nat) + (cntW kb : Nat) : Int)], .int .i64 0]) ∧ Grew W w' ∧ URow w' (some ⟨g', 0, none⟩) (unF (ofK seed words nb ka) (ofK seed words nb kb)).ws ∧ Row w' S' (flatS (unF (ofK seed words nb ka) (ofK seed words nb kb)).ss)) := Lib.hid fun W ga c gb d S T cS cT h1 h2 h3 h4 => by
    have hfa := ofK_few seed words nb HKa.out
    have hfb := ofK_few seed words nb HKb.out
    have hx := sunion_same (ofK seed words nb ka) (ofK seed words nb kb) (clampN words 4096) 1000 1000 ga c gb d S T cS cT (ofK_len ..) (ofK_len ..) (by omega) (by omega) rfl rfl (ofK_ok _ _ _ _) (ofK_ok _ _ _ _) (by decide) (by decide) hfa.1 hfb.1 hfa.2 hfb.2 (by rw [ofK_cnt, ofK_cnt]; omega) (by rw [ofK_cnt, ofK_cnt]; unfold cntW at hca hcb; omega) W h1 h3 h2 h4
    rw [ofK_k, ofK_seed, ofK_cnt, ofK_cnt] at hx
    refine hx.mono ?_
    rintro e w' ⟨g', c', S', cS', rfl, k1, k2, k3⟩
    refine ⟨g', c', S', cS', ?_, k1, k2, k3⟩
    have e1 : (unF (ofK seed words nb ka) (ofK seed words nb kb)).ws.length = clampN words 4096 := by
      show (unionW _ _).length = _
      rw [show ∀ a b, (unionW a b).length = a.length from fun a b => unionT_len a b _, ofK_len]
    have e2 : (unF (ofK seed words nb ka) (ofK seed words nb kb)).cnt = ((cntW ka : Nat) + (cntW kb : Nat) : Int) := by
      show (ofK seed words nb ka).cnt + (ofK seed words nb kb).cnt = _
      rw [ofK_cnt, ofK_cnt]
      rfl
    unfold sfC
    rw [e1, e2]
    rfl
  have HPa : Hid (∀ W (r : List Vl) (g c : Nat) (S T : Option Addr) (cS cT : Nat), r ∈ ka → Grew w W → URow W (some ⟨g, 0, none⟩) (ofK seed words nb ka).ws → Row W S (flatS (ofK seed words nb ka).ss) → VlsR (PRow W) T r → Gives Tryd.prog 32 #[.agg #[.slice (some ⟨g, 0, none⟩) (clampN words 4096) c, .int .i64 (clampN nb 5 : Nat), .slice S (ofK seed words nb ka).ss.length cS, .int .i64 seed, .int .i64 (cntW ka : Nat)], .slice T r.length cT] W (.bool (wholeV r))) := Lib.hid fun W r g c S T cS cT hr hW h1 h2 h3 => by
    obtain ⟨l1, l2, l3⟩ := HKa.out.2 r hr
    have hx := passes_any (ofK seed words nb ka) g c S cS r T cT (by rw [ofK_len]; omega) (by rw [ofK_len]; omega) hk1 (ofK_ok _ _ _ _) l1 l2 l3 W h1 h2 h3 (tab_grew HTab.out hW)
    rw [ofK_holds seed words nb hr, ofK_len, ofK_k, ofK_seed, ofK_cnt] at hx
    exact hx
  have HPu : Hid (∀ W (r : List Vl) (g c : Nat) (S T : Option Addr) (cS cT : Nat), (r ∈ ka ∨ r ∈ kb) → Grew w W → URow W (some ⟨g, 0, none⟩) (unF (ofK seed words nb ka) (ofK seed words nb kb)).ws → Row W S (flatS (unF (ofK seed words nb ka) (ofK seed words nb kb)).ss) → VlsR (PRow W) T r → Gives Tryd.prog 32 #[.agg #[.slice (some ⟨g, 0, none⟩) (clampN words 4096) c, .int .i64 (clampN nb 5 : Nat), .slice S (unF (ofK seed words nb ka) (ofK seed words nb kb)).ss.length cS, .int .i64 seed, .int .i64 ((cntW ka : Nat) + (cntW kb : Nat) : Int)], .slice T r.length cT] W (.bool (wholeV r))) := Lib.hid fun W r g c S T cS cT hr hW h1 h2 h3 => by
    have hkr : r.length ≤ 1000 ∧ (∀ v ∈ r, v.s.size ≤ 3000) ∧ (keyRowL r).length ≤ 1000000 := by
      rcases hr with h | h
      · exact HKa.out.2 r h
      · exact HKb.out.2 r h
    obtain ⟨l1, l2, l3⟩ := hkr
    have e1 : (unF (ofK seed words nb ka) (ofK seed words nb kb)).ws.length = clampN words 4096 := by
      show (unionW _ _).length = _
      rw [show ∀ a b, (unionW a b).length = a.length from fun a b => unionT_len a b _, ofK_len]
    have e2 : (unF (ofK seed words nb ka) (ofK seed words nb kb)).cnt = ((cntW ka : Nat) + (cntW kb : Nat) : Int) := by
      show (ofK seed words nb ka).cnt + (ofK seed words nb kb).cnt = _
      rw [ofK_cnt, ofK_cnt]
      rfl
    have hx := passes_any (unF (ofK seed words nb ka) (ofK seed words nb kb)) g c S cS r T cT (by rw [e1]; omega) (by rw [e1]; omega) hk1 (unionT_ok (ofK_ok _ _ _ _) (ofK_ok _ _ _ _) _) l1 l2 l3 W h1 h2 h3 (tab_grew HTab.out hW)
    rw [unF_holds seed words nb hr, e1, e2] at hx
    exact hx
  have HPos0 : Hid (0 < (unF (ofK seed words nb ka) (ofK seed words nb kb)).ws.length) := Lib.hid (by
    show 0 < (unionW _ _).length
    rw [show ∀ a b, (unionW a b).length = a.length from fun a b => unionT_len a b _, ofK_len]
    omega)
  have HRw : Hid (∀ W (r : List Vl) (T : Option Addr) (c : Nat), (r ∈ ka ∨ r ∈ kb) → VlsR (PRow W) T r → Gives Tryd.prog 40 #[.slice T r.length c] W (.bool (wholeV r))) := Lib.hid fun W r T c hr h => by
    have hkr : r.length ≤ 1000 := by
      rcases hr with h | h
      · exact (HKa.out.2 r h).1
      · exact (HKb.out.2 r h).1
    exact rwhole_any r (by omega) T c W h
  have HCa : Hid (∀ W, Grew w W → Gives Tryd.prog 39 #[.slice A ka.length cA] W (.int .i64 (cntW ka : Nat))) := Lib.hid fun W hW => rcount20_any ka (by omega) (fun r hr => Nat.le_trans (HKa.out.2 r hr).1 (by decide)) A cA W (RA.out.grew hW)
  have HCb : Hid (∀ W, Grew w W → Gives Tryd.prog 39 #[.slice B kb.length cB] W (.int .i64 (cntW kb : Nat))) := Lib.hid fun W hW => rcount20_any kb (by omega) (fun r hr => Nat.le_trans (HKb.out.2 r hr).1 (by decide)) B cB W (RB.out.grew hW)
  clear HAd HKa HKb HTab
  generalize unF (ofK seed words nb ka) (ofK seed words nb kb) = fu at *
  generalize ofK seed words nb ka = fa at *
  generalize ofK seed words nb kb = fb at *
  generalize clampN words 4096 = nw at *
  generalize clampN nb 5 = nk at *
  generalize cntW ka = na at *
  generalize cntW kb = nbb at *
  obtain ⟨wsa, nka, ssa, sda, cna⟩ := fa
  obtain ⟨wsb, nkb, ssb, sdb, cnb⟩ := fb
  obtain ⟨wsu, nku, ssu, sdu, cnu0⟩ := fu
  simp only at HAa HAb0 HUn0 HPa HPu HPos0
  obtain ⟨la, hlla⟩ : ∃ la, ssa.length = la := ⟨_, rfl⟩
  obtain ⟨lb, hllb⟩ : ∃ lb, ssb.length = lb := ⟨_, rfl⟩
  obtain ⟨lu, hllu⟩ : ∃ lu, ssu.length = lu := ⟨_, rfl⟩
  rw [hlla] at HAa HUn0 HPa
  rw [hllb] at HAb0 HUn0
  rw [hllu] at HUn0 HPu
  clear hlla hllb hllu
  have hwr : IntKind.i64.wrap ((na : Int) + (nbb : Int)) = (na : Int) + (nbb : Int) := IntWalk.i64_in _ (by omega)
  obtain ⟨cnu, hcnu⟩ : ∃ cnu, (na : Int) + (nbb : Int) = cnu := ⟨_, rfl⟩
  rw [hcnu] at HUn0 HPu hwr
  go_wp2_with fail
  refine (HN.out w2 seed).mono ?_
  rintro e w3 ⟨gn, cn, Sn, dn, rfl, hg3, hu3⟩
  have HG3 := Lib.hid (HG2.out.trans hg3)
  have HU3 := Lib.hid hu3
  clear hg3 hu3 HG2
  go_wp2_with fail
  refine (HAa.out w3 gn cn Sn dn HG3.out HU3.out).mono ?_
  rintro e w3' ⟨ga, ca, Sa, da, rfl, hg3, hu3, hr3⟩
  obtain ⟨w4, hw4⟩ : ∃ w4, w3'.alloc (.cells #[.slice (some ⟨ga, 0, none⟩) nw ca, .int .i64 nk, .slice Sa la da, .int .i64 seed, .int .i64 na] 49) = w4 := ⟨_, rfl⟩
  have hg4 : Grew w3' w4 := by rw [← hw4]; exact (Grew.refl _).alloc _
  have hb4 : Blok w4 w3'.heap.size 49 #[.slice (some ⟨ga, 0, none⟩) nw ca, .int .i64 nk, .slice Sa la da, .int .i64 seed, .int .i64 na] := by rw [← hw4]; exact Blok.new _ _ _ _ rfl
  obtain ⟨g11, hg11⟩ : ∃ g11, w3'.heap.size = g11 := ⟨_, rfl⟩
  rw [hg11] at hb4
  have HB4 := Lib.hid hb4
  have HG4 := Lib.hid (HG3.out.trans (hg3.trans hg4))
  have HUa := Lib.hid (Row.grew hu3 hg4)
  have HRa := Lib.hid (Row.grew hr3 hg4)
  have HW4 := Lib.hid hw4
  have Hg11 := Lib.hid hg11
  have HS : Hid (∀ W, Grew w4 W → g11 < W.heap.size ∧ W.cell? ⟨g11, 0, none⟩ = some (.slice (some ⟨ga, 0, none⟩) nw ca) ∧ W.cell? ⟨g11, 1, none⟩ = some (.int .i64 nk) ∧ W.cell? ⟨g11, 2, none⟩ = some (.slice Sa la da) ∧ W.cell? ⟨g11, 3, none⟩ = some (.int .i64 seed) ∧ W.cell? ⟨g11, 4, none⟩ = some (.int .i64 na)) := Lib.hid fun W hW => ⟨(HB4.out.grew hW).lt, (HB4.out.grew hW).cell 0, (HB4.out.grew hW).cell 1, (HB4.out.grew hW).cell 2, (HB4.out.grew hW).cell 3, (HB4.out.grew hW).cell 4⟩
  have HAb : Hid (∀ W (g c : Nat) (S : Option Addr) (cS : Nat), Grew w4 W → URow W (some ⟨g, 0, none⟩) (List.replicate nw 0) → Calls Tryd.prog 33 #[.agg #[.slice (some ⟨g, 0, none⟩) nw c, .int .i64 nk, .slice S 0 cS, .int .i64 seed, .int .i64 0], .slice B kb.length cB] W fun e w' => ∃ g' c' S' cS', e = .returned (.agg #[.slice (some ⟨g', 0, none⟩) nw c', .int .i64 nk, .slice S' lb cS', .int .i64 seed, .int .i64 nbb]) ∧ Grew W w' ∧ URow w' (some ⟨g', 0, none⟩) wsb ∧ Row w' S' (flatS ssb)) := Lib.hid fun W g c S cS hW hu => HAb0.out W g c S cS (HG4.out.trans hW) hu
  have HUni : Hid (∀ W (gb d : Nat) (T : Option Addr) (cT : Nat), Grew w4 W → URow W (some ⟨gb, 0, none⟩) wsb → Row W T (flatS ssb) →
      Calls Tryd.prog 37 #[.agg #[.slice (some ⟨ga, 0, none⟩) nw ca, .int .i64 nk, .slice Sa la da, .int .i64 seed, .int .i64 na], .agg #[.slice (some ⟨gb, 0, none⟩) nw d, .int .i64 nk, .slice T lb cT, .int .i64 seed, .int .i64 nbb]] W fun e w' => ∃ g' c' S' cS', e = .returned (.tuple #[.agg #[.slice (some ⟨g', 0, none⟩) nw c', .int .i64 nk, .slice S' lu cS', .int .i64 seed, .int .i64 cnu], .int .i64 0]) ∧ Grew W w' ∧ URow w' (some ⟨g', 0, none⟩) wsu ∧ Row w' S' (flatS ssu)) := Lib.hid fun W gb d T cT hW h1 h2 => HUn0.out W ga ca gb d Sa T da cT (Row.grew HUa.out hW) (Row.grew HRa.out hW) h1 h2
  have HPos := HPos0
  clear hg3 hu3 hr3 hg4 hb4 hw4 hg11 HAb0 HUn0 HAa HPos0 HG3 HU3
  go_upto_region 4 with fail
  rw [HW4.out, Hg11.out]
  clear HW4 Hg11
  go_cut [12, 13] (fun p q wx => ∃ gz gu cu Su du, p = .pointer (some ⟨gz, 0, none⟩) ∧ q = .int .i64 0 ∧ Blok wx gz 49 #[.slice (some ⟨gu, 0, none⟩) nw cu, .int .i64 nk, .slice Su lu du, .int .i64 seed, .int .i64 cnu] ∧ Grew w4 wx ∧ URow wx (some ⟨gu, 0, none⟩) wsu ∧ Row wx Su (flatS ssu))
  case first =>
    have HGd := Lib.hid (show Grew w4 w4.drew from (Grew.refl _).drew)
    refine wp_region_S (fun W => Grew w4 W) (by kernel_rfl) ?_
    generalize w4.drew = wd at *
    refine held_take 0 (v := ?_) rfl (by kernel_rfl) (by kernel_rfl) (by kernel_rfl) (fun _ _ _ h => h) (by rfl) ?_ HGd.out ?_
    rotate_left
    · (intro W hW; obtain ⟨hbl, q0, q1, q2, q3, q4⟩ := HS.out W hW; go_simp; with_reducible rfl)
    refine held_norm (a' := ?_) ?_ ?_
    rotate_left
    · (go_simp; with_reducible rfl)
    refine held_take 1 (v := ?_) rfl (by kernel_rfl) (by kernel_rfl) (by kernel_rfl) (fun _ _ _ h => h) (by rfl) ?_ HGd.out ?_
    rotate_left
    · (intro W hW; go_simp; with_reducible rfl)
    refine held_norm (a' := ?_) ?_ ?_
    rotate_left
    · (go_simp; with_reducible rfl)
    refine held_take 2 (v := ?_) rfl (by kernel_rfl) (by kernel_rfl) (by kernel_rfl) (fun _ _ _ h => h) (by rfl) ?_ HGd.out ?_
    rotate_left
    · (intro W hW; go_simp; with_reducible rfl)
    refine held_norm (a' := ?_) ?_ ?_
    rotate_left
    · (go_simp; with_reducible rfl)
    refine held_take 3 (v := ?_) rfl (by kernel_rfl) (by kernel_rfl) (by kernel_rfl) (fun _ _ _ h => h) (by rfl) ?_ HGd.out ?_
    rotate_left
    · (intro W hW; go_simp; with_reducible rfl)
    refine held_norm (a' := ?_) ?_ ?_
    rotate_left
    · (go_simp; with_reducible rfl)
    refine held_take 5 (v := ?_) rfl (by kernel_rfl) (by kernel_rfl) (by kernel_rfl) (fun _ _ _ h => h) (by rfl) ?_ HGd.out ?_
    rotate_left
    · (intro W hW; go_simp; with_reducible rfl)
    refine held_norm (a' := ?_) ?_ ?_
    rotate_left
    · (go_simp; with_reducible rfl)
    refine held_both 4 11 (by kernel_rfl) rfl rfl (by rfl) (by rfl) (fun K hK => ?_) (fun K hK => ?_)
    · skip
      go_simp
      go_wp2_with fail
      refine (HN.out wd seed).mono ?_
      rintro e wn ⟨gn, cn, Sn, dn, rfl, hgx, hux⟩
      have HUn := Lib.hid hux
      clear hux
      have HGn := Lib.hid (HGd.out.trans hgx)
      go_wp2_with fail
      clear hgx
      refine hK.out _ _ HGn.out ?_
      clear hK K
      refine held_both 6 11 (by kernel_rfl) rfl rfl (by rfl) (by rfl) (fun K hK => ?_) (fun K hK => ?_)
      · skip
        go_simp
        go_wp2_with fail
        refine (HAb.out wn gn cn Sn dn HGn.out HUn.out).mono ?_
        rintro e wa ⟨gb, cb, Sb, db, rfl, hgx, hux, hrx⟩
        have HUb := Lib.hid hux
        have HRb := Lib.hid hrx
        clear hux hrx
        have HGa := Lib.hid (HGn.out.trans hgx)
        go_wp2_with fail
        clear hgx
        refine hK.out _ _ HGa.out ?_
        clear hK K
        refine held_both 7 11 (by kernel_rfl) rfl rfl (by rfl) (by rfl) (fun K hK => ?_) (fun K hK => ?_)
        · skip
          go_simp
          go_wp2_with fail
          refine (HUni.out wa gb cb Sb db HGa.out HUb.out HRb.out).mono ?_
          rintro e wu ⟨gu, cu, Su, du, rfl, hgx, hux, hrx⟩
          have HUu := Lib.hid hux
          have HRu := Lib.hid hrx
          clear hux hrx
          have HGu := Lib.hid (HGa.out.trans hgx)
          go_wp2_with fail
          clear hgx
          refine hK.out _ _ HGu.out ?_
          clear hK K
          refine held_take 8 (v := ?_) rfl (by kernel_rfl) (by kernel_rfl) (by kernel_rfl) (fun _ _ _ h => h) (by rfl) ?_ HGu.out ?_
          rotate_left
          · (intro W hW; go_simp; with_reducible rfl)
          refine held_norm (a' := ?_) ?_ ?_
          rotate_left
          · (go_simp; with_reducible rfl)
          refine held_take 9 (v := ?_) rfl (by kernel_rfl) (by kernel_rfl) (by kernel_rfl) (fun _ _ _ h => h) (by rfl) ?_ HGu.out ?_
          rotate_left
          · (intro W hW; go_simp; with_reducible rfl)
          refine held_norm (a' := ?_) ?_ ?_
          rotate_left
          · (go_simp; with_reducible rfl)
          refine held_take 10 (v := ?_) rfl (by kernel_rfl) (by kernel_rfl) (by kernel_rfl) (fun _ _ _ h => h) (by rfl) ?_ HGu.out ?_
          rotate_left
          · (intro W hW; go_simp; with_reducible rfl)
          refine held_norm (a' := ?_) ?_ ?_
          rotate_left
          · (go_simp; with_reducible rfl)
          refine held_call 11 (by kernel_rfl) rfl (by rfl) (fun K hK => ?_)
          go_simp
          go_wp2_with fail
          obtain ⟨wz, hwz⟩ : ∃ wz, wu.alloc (.cells #[.slice none 0 0, .int .i64 0, .slice none 0 0, .int .i64 0, .int .i64 0] 49) = wz := ⟨_, rfl⟩
          have hgx : Grew wu wz := by rw [← hwz]; exact (Grew.refl _).alloc _
          have hbz : Blok wz wu.heap.size 49 #[.slice none 0 0, .int .i64 0, .slice none 0 0, .int .i64 0, .int .i64 0] := by rw [← hwz]; exact Blok.new _ _ _ _ rfl
          have hzl : w4.heap.size ≤ wu.heap.size := HGu.out.size
          obtain ⟨gz, hgz⟩ : ∃ gz, wu.heap.size = gz := ⟨_, rfl⟩
          rw [hgz] at hbz hzl ⊢
          rw [hwz]
          have HBz := Lib.hid hbz
          have HZl := Lib.hid hzl
          have HGz := Lib.hid (HGu.out.trans hgx)
          have HUu4 := Lib.hid (Row.grew HUu.out hgx)
          have HRu4 := Lib.hid (Row.grew HRu.out hgx)
          clear hgx
          refine hK.out _ _ HGz.out ?_
          clear hK K
          have hz := HBz.out
          have m0 := hz.cell 0
          have m1 := hz.cell 1
          have m2 := hz.cell 2
          have m3 := hz.cell 3
          have m4 := hz.cell 4
          simp at m0 m1 m2 m3 m4
          have x0 := hz.thaw 0
          have x1 := hz.thaw 1
          have x2 := hz.thaw 2
          have x3 := hz.thaw 3
          have x4 := hz.thaw 4
          have hbl := hz.lt
          obtain ⟨W7, hW7⟩ : ∃ W7, (((((wz.setCell ⟨gz, 0, none⟩ (.slice (some ⟨gu, 0, none⟩) nw cu)).setCell ⟨gz, 1, none⟩ (.int .i64 nk)).setCell ⟨gz, 2, none⟩ (.slice Su lu du)).setCell ⟨gz, 3, none⟩ (.int .i64 seed)).setCell ⟨gz, 4, none⟩ (.int .i64 cnu)) = W7 := ⟨_, rfl⟩
          have hG7 : Grew w4 W7 := by
            rw [← hW7]
            exact Grew.setCell (Grew.setCell (Grew.setCell (Grew.setCell (Grew.setCell HGz.out HZl.out _) HZl.out _) HZl.out _) HZl.out _) HZl.out _
          have HG7 := Lib.hid hG7
          have hgz : gu ≠ gz := by
            intro e
            have := row_u64 HUu4.out HPos.out
            obtain ⟨x, hx⟩ := this
            rw [e, m0] at hx
            cases hx
          have hU7 : URow W7 (some ⟨gu, 0, none⟩) wsu := by
            have f0 : ∀ {w' : World} {p : Nat} {v : Value}, URow w' (some ⟨gu, 0, none⟩) wsu → URow (w'.setCell ⟨gz, p, none⟩ v) (some ⟨gu, 0, none⟩) wsu := fun h => Row.turns h ((Turns.refl _ _).set _ _) (fun a ha => by injection ha with ha; subst ha; exact hgz)
            rw [← hW7]
            exact f0 (f0 (f0 (f0 (f0 HUu4.out))))
          have hR7 : Row W7 Su (flatS ssu) := by
            rcases spans_apart HRu4.out hz with h0 | hne
            · exact Or.inl h0
            · have f0 : ∀ {w' : World} {p : Nat} {v : Value}, Row w' Su (flatS ssu) → Row (w'.setCell ⟨gz, p, none⟩ v) Su (flatS ssu) := fun h => Row.turns h ((Turns.refl _ _).set _ _) hne
              rw [← hW7]
              exact f0 (f0 (f0 (f0 (f0 HRu4.out))))
          have hB7 : Blok W7 gz 49 #[.slice (some ⟨gu, 0, none⟩) nw cu, .int .i64 nk, .slice Su lu du, .int .i64 seed, .int .i64 cnu] := by
            rw [← hW7]
            exact ((((hz.set 0 _).set 1 _).set 2 _).set 3 _).set 4 _
          have HU7 := Lib.hid hU7
          have HR7 := Lib.hid hR7
          have HB7 := Lib.hid hB7
          clear hU7 hR7 hB7 hgz
          have HW7 := Lib.hid hW7
          clear hz hG7 hW7
          refine held_call 12 (by kernel_rfl) rfl (by rfl) (fun K hK => ?_)
          go_simp
          go_wp2_with fail
          rw [HW7.out]
          refine hK.out _ _ HG7.out ?_
          clear hK K m0 m1 m2 m3 m4 x0 x1 x2 x3 x4 hbl HW7
          refine held_take 13 (v := ?_) rfl (by kernel_rfl) (by kernel_rfl) (by kernel_rfl) (fun _ _ _ h => h) (by rfl) ?_ HG7.out ?_
          rotate_left
          · (intro W hW; go_simp; with_reducible rfl)
          refine held_norm (a' := ?_) ?_ ?_
          rotate_left
          · (go_simp; with_reducible rfl)
          refine held_done (by kernel_rfl) ?_
          go_wp2_with fail
          go_meet
          exact ⟨gz, gu, cu, Su, du, rfl, rfl, HB7.out, HG7.out, HU7.out, HR7.out⟩
        · skip
          go_simp
          go_wp2_with fail
          obtain ⟨wz, hwz⟩ : ∃ wz, wa.alloc (.cells #[.slice none 0 0, .int .i64 0, .slice none 0 0, .int .i64 0, .int .i64 0] 49) = wz := ⟨_, rfl⟩
          have hgx : Grew wa wz := by rw [← hwz]; exact (Grew.refl _).alloc _
          have hbz : Blok wz wa.heap.size 49 #[.slice none 0 0, .int .i64 0, .slice none 0 0, .int .i64 0, .int .i64 0] := by rw [← hwz]; exact Blok.new _ _ _ _ rfl
          have hzl : w4.heap.size ≤ wa.heap.size := HGa.out.size
          obtain ⟨gz, hgz⟩ : ∃ gz, wa.heap.size = gz := ⟨_, rfl⟩
          rw [hgz] at hbz hzl ⊢
          rw [hwz]
          have HBz := Lib.hid hbz
          have HZl := Lib.hid hzl
          have HGz := Lib.hid (HGa.out.trans hgx)
          have HUb3 := Lib.hid (Row.grew HUb.out hgx)
          have HRb3 := Lib.hid (Row.grew HRb.out hgx)
          clear hgx
          refine hK.out _ _ HGz.out ?_
          clear hK K
          refine held_call 7 (by kernel_rfl) rfl (by rfl) (fun K hK => ?_)
          go_simp
          go_wp2_with fail
          refine (HUni.out wz gb cb Sb db HGz.out HUb3.out HRb3.out).mono ?_
          rintro e wu ⟨gu, cu, Su, du, rfl, hgx, hux, hrx⟩
          have HUu := Lib.hid hux
          have HRu := Lib.hid hrx
          clear hux hrx
          have HGu := Lib.hid (HGz.out.trans hgx)
          have HB4 := Lib.hid (HBz.out.grew hgx)
          go_wp2_with fail
          clear hgx
          refine hK.out _ _ HGu.out ?_
          clear hK K
          refine held_take 8 (v := ?_) rfl (by kernel_rfl) (by kernel_rfl) (by kernel_rfl) (fun _ _ _ h => h) (by rfl) ?_ HGu.out ?_
          rotate_left
          · (intro W hW; go_simp; with_reducible rfl)
          refine held_norm (a' := ?_) ?_ ?_
          rotate_left
          · (go_simp; with_reducible rfl)
          refine held_take 9 (v := ?_) rfl (by kernel_rfl) (by kernel_rfl) (by kernel_rfl) (fun _ _ _ h => h) (by rfl) ?_ HGu.out ?_
          rotate_left
          · (intro W hW; go_simp; with_reducible rfl)
          refine held_norm (a' := ?_) ?_ ?_
          rotate_left
          · (go_simp; with_reducible rfl)
          refine held_take 10 (v := ?_) rfl (by kernel_rfl) (by kernel_rfl) (by kernel_rfl) (fun _ _ _ h => h) (by rfl) ?_ HGu.out ?_
          rotate_left
          · (intro W hW; go_simp; with_reducible rfl)
          refine held_norm (a' := ?_) ?_ ?_
          rotate_left
          · (go_simp; with_reducible rfl)
          have hz := HB4.out
          have m0 := hz.cell 0
          have m1 := hz.cell 1
          have m2 := hz.cell 2
          have m3 := hz.cell 3
          have m4 := hz.cell 4
          simp at m0 m1 m2 m3 m4
          have x0 := hz.thaw 0
          have x1 := hz.thaw 1
          have x2 := hz.thaw 2
          have x3 := hz.thaw 3
          have x4 := hz.thaw 4
          have hbl := hz.lt
          obtain ⟨W7, hW7⟩ : ∃ W7, (((((wu.setCell ⟨gz, 0, none⟩ (.slice (some ⟨gu, 0, none⟩) nw cu)).setCell ⟨gz, 1, none⟩ (.int .i64 nk)).setCell ⟨gz, 2, none⟩ (.slice Su lu du)).setCell ⟨gz, 3, none⟩ (.int .i64 seed)).setCell ⟨gz, 4, none⟩ (.int .i64 cnu)) = W7 := ⟨_, rfl⟩
          have hG7 : Grew w4 W7 := by
            rw [← hW7]
            exact Grew.setCell (Grew.setCell (Grew.setCell (Grew.setCell (Grew.setCell HGu.out HZl.out _) HZl.out _) HZl.out _) HZl.out _) HZl.out _
          have HG7 := Lib.hid hG7
          have hgz : gu ≠ gz := by
            intro e
            have := row_u64 HUu.out HPos.out
            obtain ⟨x, hx⟩ := this
            rw [e, m0] at hx
            cases hx
          have hU7 : URow W7 (some ⟨gu, 0, none⟩) wsu := by
            have f0 : ∀ {w' : World} {p : Nat} {v : Value}, URow w' (some ⟨gu, 0, none⟩) wsu → URow (w'.setCell ⟨gz, p, none⟩ v) (some ⟨gu, 0, none⟩) wsu := fun h => Row.turns h ((Turns.refl _ _).set _ _) (fun a ha => by injection ha with ha; subst ha; exact hgz)
            rw [← hW7]
            exact f0 (f0 (f0 (f0 (f0 HUu.out))))
          have hR7 : Row W7 Su (flatS ssu) := by
            rcases spans_apart HRu.out hz with h0 | hne
            · exact Or.inl h0
            · have f0 : ∀ {w' : World} {p : Nat} {v : Value}, Row w' Su (flatS ssu) → Row (w'.setCell ⟨gz, p, none⟩ v) Su (flatS ssu) := fun h => Row.turns h ((Turns.refl _ _).set _ _) hne
              rw [← hW7]
              exact f0 (f0 (f0 (f0 (f0 HRu.out))))
          have hB7 : Blok W7 gz 49 #[.slice (some ⟨gu, 0, none⟩) nw cu, .int .i64 nk, .slice Su lu du, .int .i64 seed, .int .i64 cnu] := by
            rw [← hW7]
            exact ((((hz.set 0 _).set 1 _).set 2 _).set 3 _).set 4 _
          have HU7 := Lib.hid hU7
          have HR7 := Lib.hid hR7
          have HB7 := Lib.hid hB7
          clear hU7 hR7 hB7 hgz
          have HW7 := Lib.hid hW7
          clear hz hG7 hW7
          refine held_call 12 (by kernel_rfl) rfl (by rfl) (fun K hK => ?_)
          go_simp
          go_wp2_with fail
          rw [HW7.out]
          refine hK.out _ _ HG7.out ?_
          clear hK K m0 m1 m2 m3 m4 x0 x1 x2 x3 x4 hbl HW7
          refine held_take 13 (v := ?_) rfl (by kernel_rfl) (by kernel_rfl) (by kernel_rfl) (fun _ _ _ h => h) (by rfl) ?_ HG7.out ?_
          rotate_left
          · (intro W hW; go_simp; with_reducible rfl)
          refine held_norm (a' := ?_) ?_ ?_
          rotate_left
          · (go_simp; with_reducible rfl)
          refine held_done (by kernel_rfl) ?_
          go_wp2_with fail
          go_meet
          exact ⟨gz, gu, cu, Su, du, rfl, rfl, HB7.out, HG7.out, HU7.out, HR7.out⟩
      · skip
        go_simp
        go_wp2_with fail
        obtain ⟨wz, hwz⟩ : ∃ wz, wn.alloc (.cells #[.slice none 0 0, .int .i64 0, .slice none 0 0, .int .i64 0, .int .i64 0] 49) = wz := ⟨_, rfl⟩
        have hgx : Grew wn wz := by rw [← hwz]; exact (Grew.refl _).alloc _
        have hbz : Blok wz wn.heap.size 49 #[.slice none 0 0, .int .i64 0, .slice none 0 0, .int .i64 0, .int .i64 0] := by rw [← hwz]; exact Blok.new _ _ _ _ rfl
        have hzl : w4.heap.size ≤ wn.heap.size := HGn.out.size
        obtain ⟨gz, hgz⟩ : ∃ gz, wn.heap.size = gz := ⟨_, rfl⟩
        rw [hgz] at hbz hzl ⊢
        rw [hwz]
        have HBz := Lib.hid hbz
        have HZl := Lib.hid hzl
        have HGz := Lib.hid (HGn.out.trans hgx)
        have HUn2 := Lib.hid (Row.grew HUn.out hgx)
        clear hgx
        refine hK.out _ _ HGz.out ?_
        clear hK K
        refine held_call 6 (by kernel_rfl) rfl (by rfl) (fun K hK => ?_)
        go_simp
        go_wp2_with fail
        refine (HAb.out wz gn cn Sn dn HGz.out HUn2.out).mono ?_
        rintro e wa ⟨gb, cb, Sb, db, rfl, hgx, hux, hrx⟩
        have HUb := Lib.hid hux
        have HRb := Lib.hid hrx
        clear hux hrx
        have HGa := Lib.hid (HGz.out.trans hgx)
        have HB3 := Lib.hid (HBz.out.grew hgx)
        go_wp2_with fail
        clear hgx
        refine hK.out _ _ HGa.out ?_
        clear hK K
        refine held_call 7 (by kernel_rfl) rfl (by rfl) (fun K hK => ?_)
        go_simp
        go_wp2_with fail
        refine (HUni.out wa gb cb Sb db HGa.out HUb.out HRb.out).mono ?_
        rintro e wu ⟨gu, cu, Su, du, rfl, hgx, hux, hrx⟩
        have HUu := Lib.hid hux
        have HRu := Lib.hid hrx
        clear hux hrx
        have HGu := Lib.hid (HGa.out.trans hgx)
        have HB4 := Lib.hid (HB3.out.grew hgx)
        go_wp2_with fail
        clear hgx
        refine hK.out _ _ HGu.out ?_
        clear hK K
        refine held_take 8 (v := ?_) rfl (by kernel_rfl) (by kernel_rfl) (by kernel_rfl) (fun _ _ _ h => h) (by rfl) ?_ HGu.out ?_
        rotate_left
        · (intro W hW; go_simp; with_reducible rfl)
        refine held_norm (a' := ?_) ?_ ?_
        rotate_left
        · (go_simp; with_reducible rfl)
        refine held_take 9 (v := ?_) rfl (by kernel_rfl) (by kernel_rfl) (by kernel_rfl) (fun _ _ _ h => h) (by rfl) ?_ HGu.out ?_
        rotate_left
        · (intro W hW; go_simp; with_reducible rfl)
        refine held_norm (a' := ?_) ?_ ?_
        rotate_left
        · (go_simp; with_reducible rfl)
        refine held_take 10 (v := ?_) rfl (by kernel_rfl) (by kernel_rfl) (by kernel_rfl) (fun _ _ _ h => h) (by rfl) ?_ HGu.out ?_
        rotate_left
        · (intro W hW; go_simp; with_reducible rfl)
        refine held_norm (a' := ?_) ?_ ?_
        rotate_left
        · (go_simp; with_reducible rfl)
        have hz := HB4.out
        have m0 := hz.cell 0
        have m1 := hz.cell 1
        have m2 := hz.cell 2
        have m3 := hz.cell 3
        have m4 := hz.cell 4
        simp at m0 m1 m2 m3 m4
        have x0 := hz.thaw 0
        have x1 := hz.thaw 1
        have x2 := hz.thaw 2
        have x3 := hz.thaw 3
        have x4 := hz.thaw 4
        have hbl := hz.lt
        obtain ⟨W7, hW7⟩ : ∃ W7, (((((wu.setCell ⟨gz, 0, none⟩ (.slice (some ⟨gu, 0, none⟩) nw cu)).setCell ⟨gz, 1, none⟩ (.int .i64 nk)).setCell ⟨gz, 2, none⟩ (.slice Su lu du)).setCell ⟨gz, 3, none⟩ (.int .i64 seed)).setCell ⟨gz, 4, none⟩ (.int .i64 cnu)) = W7 := ⟨_, rfl⟩
        have hG7 : Grew w4 W7 := by
          rw [← hW7]
          exact Grew.setCell (Grew.setCell (Grew.setCell (Grew.setCell (Grew.setCell HGu.out HZl.out _) HZl.out _) HZl.out _) HZl.out _) HZl.out _
        have HG7 := Lib.hid hG7
        have hgz : gu ≠ gz := by
          intro e
          have := row_u64 HUu.out HPos.out
          obtain ⟨x, hx⟩ := this
          rw [e, m0] at hx
          cases hx
        have hU7 : URow W7 (some ⟨gu, 0, none⟩) wsu := by
          have f0 : ∀ {w' : World} {p : Nat} {v : Value}, URow w' (some ⟨gu, 0, none⟩) wsu → URow (w'.setCell ⟨gz, p, none⟩ v) (some ⟨gu, 0, none⟩) wsu := fun h => Row.turns h ((Turns.refl _ _).set _ _) (fun a ha => by injection ha with ha; subst ha; exact hgz)
          rw [← hW7]
          exact f0 (f0 (f0 (f0 (f0 HUu.out))))
        have hR7 : Row W7 Su (flatS ssu) := by
          rcases spans_apart HRu.out hz with h0 | hne
          · exact Or.inl h0
          · have f0 : ∀ {w' : World} {p : Nat} {v : Value}, Row w' Su (flatS ssu) → Row (w'.setCell ⟨gz, p, none⟩ v) Su (flatS ssu) := fun h => Row.turns h ((Turns.refl _ _).set _ _) hne
            rw [← hW7]
            exact f0 (f0 (f0 (f0 (f0 HRu.out))))
        have hB7 : Blok W7 gz 49 #[.slice (some ⟨gu, 0, none⟩) nw cu, .int .i64 nk, .slice Su lu du, .int .i64 seed, .int .i64 cnu] := by
          rw [← hW7]
          exact ((((hz.set 0 _).set 1 _).set 2 _).set 3 _).set 4 _
        have HU7 := Lib.hid hU7
        have HR7 := Lib.hid hR7
        have HB7 := Lib.hid hB7
        clear hU7 hR7 hB7 hgz
        have HW7 := Lib.hid hW7
        clear hz hG7 hW7
        refine held_call 12 (by kernel_rfl) rfl (by rfl) (fun K hK => ?_)
        go_simp
        go_wp2_with fail
        rw [HW7.out]
        refine hK.out _ _ HG7.out ?_
        clear hK K m0 m1 m2 m3 m4 x0 x1 x2 x3 x4 hbl HW7
        refine held_take 13 (v := ?_) rfl (by kernel_rfl) (by kernel_rfl) (by kernel_rfl) (fun _ _ _ h => h) (by rfl) ?_ HG7.out ?_
        rotate_left
        · (intro W hW; go_simp; with_reducible rfl)
        refine held_norm (a' := ?_) ?_ ?_
        rotate_left
        · (go_simp; with_reducible rfl)
        refine held_done (by kernel_rfl) ?_
        go_wp2_with fail
        go_meet
        exact ⟨gz, gu, cu, Su, du, rfl, rfl, HB7.out, HG7.out, HU7.out, HR7.out⟩
    · skip
      go_simp
      go_wp2_with fail
      obtain ⟨wz, hwz⟩ : ∃ wz, wd.alloc (.cells #[.slice none 0 0, .int .i64 0, .slice none 0 0, .int .i64 0, .int .i64 0] 49) = wz := ⟨_, rfl⟩
      have hgx : Grew wd wz := by rw [← hwz]; exact (Grew.refl _).alloc _
      have hbz : Blok wz wd.heap.size 49 #[.slice none 0 0, .int .i64 0, .slice none 0 0, .int .i64 0, .int .i64 0] := by rw [← hwz]; exact Blok.new _ _ _ _ rfl
      have hzl : w4.heap.size ≤ wd.heap.size := HGd.out.size
      obtain ⟨gz, hgz⟩ : ∃ gz, wd.heap.size = gz := ⟨_, rfl⟩
      rw [hgz] at hbz hzl ⊢
      rw [hwz]
      have HBz := Lib.hid hbz
      have HZl := Lib.hid hzl
      have HGz := Lib.hid (HGd.out.trans hgx)
      clear hgx
      refine hK.out _ _ HGz.out ?_
      clear hK K
      refine held_call 4 (by kernel_rfl) rfl (by rfl) (fun K hK => ?_)
      go_simp
      go_wp2_with fail
      refine (HN.out wz seed).mono ?_
      rintro e wn ⟨gn, cn, Sn, dn, rfl, hgx, hux⟩
      have HUn := Lib.hid hux
      clear hux
      have HGn := Lib.hid (HGz.out.trans hgx)
      have HB2 := Lib.hid (HBz.out.grew hgx)
      go_wp2_with fail
      clear hgx
      refine hK.out _ _ HGn.out ?_
      clear hK K
      refine held_call 6 (by kernel_rfl) rfl (by rfl) (fun K hK => ?_)
      go_simp
      go_wp2_with fail
      refine (HAb.out wn gn cn Sn dn HGn.out HUn.out).mono ?_
      rintro e wa ⟨gb, cb, Sb, db, rfl, hgx, hux, hrx⟩
      have HUb := Lib.hid hux
      have HRb := Lib.hid hrx
      clear hux hrx
      have HGa := Lib.hid (HGn.out.trans hgx)
      have HB3 := Lib.hid (HB2.out.grew hgx)
      go_wp2_with fail
      clear hgx
      refine hK.out _ _ HGa.out ?_
      clear hK K
      refine held_call 7 (by kernel_rfl) rfl (by rfl) (fun K hK => ?_)
      go_simp
      go_wp2_with fail
      refine (HUni.out wa gb cb Sb db HGa.out HUb.out HRb.out).mono ?_
      rintro e wu ⟨gu, cu, Su, du, rfl, hgx, hux, hrx⟩
      have HUu := Lib.hid hux
      have HRu := Lib.hid hrx
      clear hux hrx
      have HGu := Lib.hid (HGa.out.trans hgx)
      have HB4 := Lib.hid (HB3.out.grew hgx)
      go_wp2_with fail
      clear hgx
      refine hK.out _ _ HGu.out ?_
      clear hK K
      refine held_take 8 (v := ?_) rfl (by kernel_rfl) (by kernel_rfl) (by kernel_rfl) (fun _ _ _ h => h) (by rfl) ?_ HGu.out ?_
      rotate_left
      · (intro W hW; go_simp; with_reducible rfl)
      refine held_norm (a' := ?_) ?_ ?_
      rotate_left
      · (go_simp; with_reducible rfl)
      refine held_take 9 (v := ?_) rfl (by kernel_rfl) (by kernel_rfl) (by kernel_rfl) (fun _ _ _ h => h) (by rfl) ?_ HGu.out ?_
      rotate_left
      · (intro W hW; go_simp; with_reducible rfl)
      refine held_norm (a' := ?_) ?_ ?_
      rotate_left
      · (go_simp; with_reducible rfl)
      refine held_take 10 (v := ?_) rfl (by kernel_rfl) (by kernel_rfl) (by kernel_rfl) (fun _ _ _ h => h) (by rfl) ?_ HGu.out ?_
      rotate_left
      · (intro W hW; go_simp; with_reducible rfl)
      refine held_norm (a' := ?_) ?_ ?_
      rotate_left
      · (go_simp; with_reducible rfl)
      have hz := HB4.out
      have m0 := hz.cell 0
      have m1 := hz.cell 1
      have m2 := hz.cell 2
      have m3 := hz.cell 3
      have m4 := hz.cell 4
      simp at m0 m1 m2 m3 m4
      have x0 := hz.thaw 0
      have x1 := hz.thaw 1
      have x2 := hz.thaw 2
      have x3 := hz.thaw 3
      have x4 := hz.thaw 4
      have hbl := hz.lt
      obtain ⟨W7, hW7⟩ : ∃ W7, (((((wu.setCell ⟨gz, 0, none⟩ (.slice (some ⟨gu, 0, none⟩) nw cu)).setCell ⟨gz, 1, none⟩ (.int .i64 nk)).setCell ⟨gz, 2, none⟩ (.slice Su lu du)).setCell ⟨gz, 3, none⟩ (.int .i64 seed)).setCell ⟨gz, 4, none⟩ (.int .i64 cnu)) = W7 := ⟨_, rfl⟩
      have hG7 : Grew w4 W7 := by
        rw [← hW7]
        exact Grew.setCell (Grew.setCell (Grew.setCell (Grew.setCell (Grew.setCell HGu.out HZl.out _) HZl.out _) HZl.out _) HZl.out _) HZl.out _
      have HG7 := Lib.hid hG7
      have hgz : gu ≠ gz := by
        intro e
        have := row_u64 HUu.out HPos.out
        obtain ⟨x, hx⟩ := this
        rw [e, m0] at hx
        cases hx
      have hU7 : URow W7 (some ⟨gu, 0, none⟩) wsu := by
        have f0 : ∀ {w' : World} {p : Nat} {v : Value}, URow w' (some ⟨gu, 0, none⟩) wsu → URow (w'.setCell ⟨gz, p, none⟩ v) (some ⟨gu, 0, none⟩) wsu := fun h => Row.turns h ((Turns.refl _ _).set _ _) (fun a ha => by injection ha with ha; subst ha; exact hgz)
        rw [← hW7]
        exact f0 (f0 (f0 (f0 (f0 HUu.out))))
      have hR7 : Row W7 Su (flatS ssu) := by
        rcases spans_apart HRu.out hz with h0 | hne
        · exact Or.inl h0
        · have f0 : ∀ {w' : World} {p : Nat} {v : Value}, Row w' Su (flatS ssu) → Row (w'.setCell ⟨gz, p, none⟩ v) Su (flatS ssu) := fun h => Row.turns h ((Turns.refl _ _).set _ _) hne
          rw [← hW7]
          exact f0 (f0 (f0 (f0 (f0 HRu.out))))
      have hB7 : Blok W7 gz 49 #[.slice (some ⟨gu, 0, none⟩) nw cu, .int .i64 nk, .slice Su lu du, .int .i64 seed, .int .i64 cnu] := by
        rw [← hW7]
        exact ((((hz.set 0 _).set 1 _).set 2 _).set 3 _).set 4 _
      have HU7 := Lib.hid hU7
      have HR7 := Lib.hid hR7
      have HB7 := Lib.hid hB7
      clear hU7 hR7 hB7 hgz
      have HW7 := Lib.hid hW7
      clear hz hG7 hW7
      refine held_call 12 (by kernel_rfl) rfl (by rfl) (fun K hK => ?_)
      go_simp
      go_wp2_with fail
      rw [HW7.out]
      refine hK.out _ _ HG7.out ?_
      clear hK K m0 m1 m2 m3 m4 x0 x1 x2 x3 x4 hbl HW7
      refine held_take 13 (v := ?_) rfl (by kernel_rfl) (by kernel_rfl) (by kernel_rfl) (fun _ _ _ h => h) (by rfl) ?_ HG7.out ?_
      rotate_left
      · (intro W hW; go_simp; with_reducible rfl)
      refine held_norm (a' := ?_) ?_ ?_
      rotate_left
      · (go_simp; with_reducible rfl)
      refine held_done (by kernel_rfl) ?_
      go_wp2_with fail
      go_meet
      exact ⟨gz, gu, cu, Su, du, rfl, rfl, HB7.out, HG7.out, HU7.out, HR7.out⟩
  case rest =>
    obtain ⟨gz, gu, cu, Su, du, rfl, rfl, hbz, hgc, huu, hru⟩ := hcut
    have HBz := Lib.hid hbz
    have HGc := Lib.hid (HG4.out.trans hgc)
    have HUc := Lib.hid huu
    have HRc := Lib.hid hru
    have HUac := Lib.hid (Row.grew HUa.out hgc)
    have HRac := Lib.hid (Row.grew HRa.out hgc)
    have HSc : Hid (∀ W, Grew wc W → (g11 < W.heap.size ∧ W.cell? ⟨g11, 0, none⟩ = some (.slice (some ⟨ga, 0, none⟩) nw ca) ∧ W.cell? ⟨g11, 1, none⟩ = some (.int .i64 nk) ∧ W.cell? ⟨g11, 2, none⟩ = some (.slice Sa la da) ∧ W.cell? ⟨g11, 3, none⟩ = some (.int .i64 seed) ∧ W.cell? ⟨g11, 4, none⟩ = some (.int .i64 na)) ∧ (gz < W.heap.size ∧ W.cell? ⟨gz, 0, none⟩ = some (.slice (some ⟨gu, 0, none⟩) nw cu) ∧ W.cell? ⟨gz, 1, none⟩ = some (.int .i64 nk) ∧ W.cell? ⟨gz, 2, none⟩ = some (.slice Su lu du) ∧ W.cell? ⟨gz, 3, none⟩ = some (.int .i64 seed) ∧ W.cell? ⟨gz, 4, none⟩ = some (.int .i64 cnu))) := Lib.hid fun W hW => ⟨HS.out W (hgc.trans hW), (HBz.out.grew hW).lt, (HBz.out.grew hW).cell 0, (HBz.out.grew hW).cell 1, (HBz.out.grew hW).cell 2, (HBz.out.grew hW).cell 3, (HBz.out.grew hW).cell 4⟩
    have HPA : Hid (∀ W (r : List Vl) (T : Option Addr) (cT : Nat), r ∈ ka → Grew wc W → VlsR (PRow W) T r → Gives Tryd.prog 32 #[.agg #[.slice (some ⟨ga, 0, none⟩) nw ca, .int .i64 nk, .slice Sa la da, .int .i64 seed, .int .i64 na], .slice T r.length cT] W (.bool (wholeV r))) := Lib.hid fun W r T cT hr hW hv => HPa.out W r ga ca Sa T da cT hr (HGc.out.trans hW) (Row.grew HUac.out hW) (Row.grew HRac.out hW) hv
    have HPU : Hid (∀ W (r : List Vl) (T : Option Addr) (cT : Nat), (r ∈ ka ∨ r ∈ kb) → Grew wc W → VlsR (PRow W) T r → Gives Tryd.prog 32 #[.agg #[.slice (some ⟨gu, 0, none⟩) nw cu, .int .i64 nk, .slice Su lu du, .int .i64 seed, .int .i64 cnu], .slice T r.length cT] W (.bool (wholeV r))) := Lib.hid fun W r T cT hr hW hv => HPu.out W r gu cu Su T du cT hr (HGc.out.trans hW) (Row.grew HUc.out hW) (Row.grew HRc.out hW) hv
    clear hbz hgc huu hru HBz HUc HRc HUac HRac HUa HRa HS HPa HPu HAb HUni HPos HB4 HG4
    go_wp2_with fail
    (with_reducible refine (code20_any 0 wc).grows.mono ?_)
    rintro e w5 ⟨rfl, hgx⟩
    have HG5 := Lib.hid hgx
    clear hgx
    obtain ⟨_, hl1, p0, p1, p2, p3, p4⟩ := HSc.out w5 HG5.out
    go_wp2_with fail
    (with_reducible refine (scount_any (some ⟨gu, 0, none⟩) Su nw cu lu du nk seed cnu w5).grows.mono ?_)
    rintro e w6 ⟨rfl, hgx⟩
    have HG6 := Lib.hid (HG5.out.trans hgx)
    clear hgx hl1 p0 p1 p2 p3 p4 HG5
    go_wp2_with fail
    (with_reducible refine (HCa.out w6 (HGc.out.trans HG6.out)).grows.mono ?_)
    rintro e w7 ⟨rfl, hgx⟩
    have HG7 := Lib.hid (HG6.out.trans hgx)
    clear hgx HG6 HCa
    go_wp2_with fail
    (with_reducible refine (HCb.out w7 (HGc.out.trans HG7.out)).grows.mono ?_)
    rintro e w8 ⟨rfl, hgx⟩
    have HG8 := Lib.hid (HG7.out.trans hgx)
    clear hgx HG7 HCb
    have ecn : (cnu != cnu) = false := by simp
    go_wp2
    go_loopw [14] (fun i wr => KpAt wc ka.length i wr) (fun i _ => ka.length - (intOf i).toNat)
    case atStart => exact ⟨0, Nat.zero_le _, rfl, HG8.out⟩
    case round =>
      clear HG8
      obtain ⟨j, hj, rfl, hg⟩ := hrel
      have HG := Lib.hid hg
      clear hg
      by_cases h : j < ka.length
      · have hji : (j : Int) < (ka.length : Int) := by omega
        have e0 : decide ((j : Int) < (ka.length : Int)) = true := decide_eq_true hji
        obtain ⟨kx, ko, PA, kk, rfl, hkx, c0', hka', hva⟩ := rwsR_at RA.out h
        have hmem := List.getElem_mem h
        have HRo : Hid (∀ W, Grew wr W → kx < W.heap.size ∧ W.cell? ⟨kx, ko + j, none⟩ = some (.slice PA ka[j].length kk)) := Lib.hid fun W hW => ⟨Nat.lt_of_lt_of_le hkx (HGc.out.trans (HG.out.trans hW)).size, ((HGc.out.trans (HG.out.trans hW)).cell (a := ⟨kx, ko + j, none⟩) hkx).trans c0'⟩
        have HP1 : Hid (∀ W, Grew wr W → Gives Tryd.prog 32 #[.agg #[.slice (some ⟨ga, 0, none⟩) nw ca, .int .i64 nk, .slice Sa la da, .int .i64 seed, .int .i64 na], .slice PA ka[j].length kk] W (.bool (wholeV ka[j]))) := Lib.hid fun W hW => HPA.out W _ PA kk hmem (HG.out.trans hW) (hva.grew (HGc.out.trans (HG.out.trans hW)))
        have HP2 : Hid (∀ W, Grew wr W → Gives Tryd.prog 32 #[.agg #[.slice (some ⟨gu, 0, none⟩) nw cu, .int .i64 nk, .slice Su lu du, .int .i64 seed, .int .i64 cnu], .slice PA ka[j].length kk] W (.bool (wholeV ka[j]))) := Lib.hid fun W hW => HPU.out W _ PA kk (Or.inl hmem) (HG.out.trans hW) (hva.grew (HGc.out.trans (HG.out.trans hW)))
        have HR1 : Hid (∀ W, Grew wr W → Gives Tryd.prog 40 #[.slice PA ka[j].length kk] W (.bool (wholeV ka[j]))) := Lib.hid fun W hW => HRw.out W _ PA kk (Or.inl hmem) (hva.grew (HGc.out.trans (HG.out.trans hW)))
        have HSr := Lib.hid (fun W (hW : Grew wr W) => HSc.out W (HG.out.trans hW))
        clear hmem hkx c0' hka' hva
        generalize ka[j] = r at *
        generalize wholeV r = t at *
        have et : (t != t) = false := by simp
        go_upto_region 10 with fail
        refine wp_region_S (fun W => Grew wr W) (by kernel_rfl) ?_
        refine held_take 0 (v := ?_) rfl (by kernel_rfl) (by kernel_rfl) (by kernel_rfl) (fun _ _ _ h => h) (by rfl) ?_ (Grew.refl wr).drew ?_
        rotate_left
        · (intro W hW; obtain ⟨⟨hl0, q0, q1, q2, q3, q4⟩, hl1, p0, p1, p2, p3, p4⟩ := HSr.out W hW; go_simp; with_reducible rfl)
        refine held_norm (a' := ?_) ?_ ?_
        rotate_left
        · (go_simp; with_reducible rfl)
        refine held_take 1 (v := ?_) rfl (by kernel_rfl) (by kernel_rfl) (by kernel_rfl) (fun _ _ _ h => h) (by rfl) ?_ (Grew.refl wr).drew ?_
        rotate_left
        · (intro W hW; go_simp; with_reducible rfl)
        refine held_take 2 (v := ?_) rfl (by kernel_rfl) (by kernel_rfl) (by kernel_rfl) (fun _ _ _ h => h) (by rfl) ?_ (Grew.refl wr).drew ?_
        rotate_left
        · (intro W hW; go_simp; with_reducible rfl)
        refine held_take 3 (v := ?_) rfl (by kernel_rfl) (by kernel_rfl) (by kernel_rfl) (fun _ _ _ h => h) (by rfl) ?_ (Grew.refl wr).drew ?_
        rotate_left
        · (intro W hW; go_simp; with_reducible rfl)
        refine held_norm (a' := ?_) ?_ ?_
        rotate_left
        · (go_simp; with_reducible rfl)
        refine held_take 4 (v := ?_) rfl (by kernel_rfl) (by kernel_rfl) (by kernel_rfl) (fun _ _ _ h => h) (by rfl) ?_ (Grew.refl wr).drew ?_
        rotate_left
        · (intro W hW; obtain ⟨hl2, q0⟩ := HRo.out W hW; go_simp; with_reducible rfl)
        refine held_norm (a' := ?_) ?_ ?_
        rotate_left
        · (go_simp; with_reducible rfl)
        refine held_take 6 (v := ?_) rfl (by kernel_rfl) (by kernel_rfl) (by kernel_rfl) (fun _ _ _ h => h) (by rfl) ?_ (Grew.refl wr).drew ?_
        rotate_left
        · (intro W hW; go_simp; with_reducible rfl)
        refine held_take 7 (v := ?_) rfl (by kernel_rfl) (by kernel_rfl) (by kernel_rfl) (fun _ _ _ h => h) (by rfl) ?_ (Grew.refl wr).drew ?_
        rotate_left
        · (intro W hW; go_simp; with_reducible rfl)
        refine held_take 8 (v := ?_) rfl (by kernel_rfl) (by kernel_rfl) (by kernel_rfl) (fun _ _ _ h => h) (by rfl) ?_ (Grew.refl wr).drew ?_
        rotate_left
        · (intro W hW; go_simp; with_reducible rfl)
        refine held_norm (a' := ?_) ?_ ?_
        rotate_left
        · (go_simp; with_reducible rfl)
        refine held_take 9 (v := ?_) rfl (by kernel_rfl) (by kernel_rfl) (by kernel_rfl) (fun _ _ _ h => h) (by rfl) ?_ (Grew.refl wr).drew ?_
        rotate_left
        · (intro W hW; obtain ⟨hl2, q0⟩ := HRo.out W hW; go_simp; with_reducible rfl)
        refine held_norm (a' := ?_) ?_ ?_
        rotate_left
        · (go_simp; with_reducible rfl)
        refine held_call 5 (by kernel_rfl) rfl (by rfl) (fun K hK => ?_)
        go_simp
        go_wp2_with (go_at_call 32; (with_reducible refine (HP1.out _ (Grew.refl wr).drew).grows.mono ?_); rintro e wq1 ⟨rfl, hgx⟩; have Hwq1 := Lib.hid (show Grew wr wq1 from ((Grew.refl wr).drew).trans hgx); clear hgx)
        refine hK.out _ _ Hwq1.out ?_
        clear hK K
        refine held_call 10 (by kernel_rfl) rfl (by rfl) (fun K hK => ?_)
        go_simp
        go_wp2_with (go_at_call 40; (with_reducible refine (HR1.out _ Hwq1.out).grows.mono ?_); rintro e wq2 ⟨rfl, hgx⟩; have Hwq2 := Lib.hid (show Grew wr wq2 from (Hwq1.out).trans hgx); clear hgx)
        refine hK.out _ _ Hwq2.out ?_
        clear hK K
        refine held_take 11 (v := ?_) rfl (by kernel_rfl) (by kernel_rfl) (by kernel_rfl) (fun _ _ _ h => h) (by rfl) ?_ Hwq2.out ?_
        rotate_left
        · (intro W hW; go_simp; with_reducible rfl)
        refine held_take 12 (v := ?_) rfl (by kernel_rfl) (by kernel_rfl) (by kernel_rfl) (fun _ _ _ h => h) (by rfl) ?_ Hwq2.out ?_
        rotate_left
        · (intro W hW; go_simp; with_reducible rfl)
        refine held_norm (a' := ?_) ?_ ?_
        rotate_left
        · (go_simp; with_reducible rfl)
        refine held_take 13 (v := ?_) rfl (by kernel_rfl) (by kernel_rfl) (by kernel_rfl) (fun _ _ _ h => h) (by rfl) ?_ Hwq2.out ?_
        rotate_left
        · (intro W hW; obtain ⟨⟨hl0, q0, q1, q2, q3, q4⟩, hl1, p0, p1, p2, p3, p4⟩ := HSr.out W hW; go_simp; with_reducible rfl)
        refine held_norm (a' := ?_) ?_ ?_
        rotate_left
        · (go_simp; with_reducible rfl)
        refine held_take 14 (v := ?_) rfl (by kernel_rfl) (by kernel_rfl) (by kernel_rfl) (fun _ _ _ h => h) (by rfl) ?_ Hwq2.out ?_
        rotate_left
        · (intro W hW; go_simp; with_reducible rfl)
        refine held_take 15 (v := ?_) rfl (by kernel_rfl) (by kernel_rfl) (by kernel_rfl) (fun _ _ _ h => h) (by rfl) ?_ Hwq2.out ?_
        rotate_left
        · (intro W hW; go_simp; with_reducible rfl)
        refine held_take 16 (v := ?_) rfl (by kernel_rfl) (by kernel_rfl) (by kernel_rfl) (fun _ _ _ h => h) (by rfl) ?_ Hwq2.out ?_
        rotate_left
        · (intro W hW; go_simp; with_reducible rfl)
        refine held_norm (a' := ?_) ?_ ?_
        rotate_left
        · (go_simp; with_reducible rfl)
        refine held_take 17 (v := ?_) rfl (by kernel_rfl) (by kernel_rfl) (by kernel_rfl) (fun _ _ _ h => h) (by rfl) ?_ Hwq2.out ?_
        rotate_left
        · (intro W hW; obtain ⟨hl2, q0⟩ := HRo.out W hW; go_simp; with_reducible rfl)
        refine held_norm (a' := ?_) ?_ ?_
        rotate_left
        · (go_simp; with_reducible rfl)
        refine held_take 19 (v := ?_) rfl (by kernel_rfl) (by kernel_rfl) (by kernel_rfl) (fun _ _ _ h => h) (by rfl) ?_ Hwq2.out ?_
        rotate_left
        · (intro W hW; go_simp; with_reducible rfl)
        refine held_take 20 (v := ?_) rfl (by kernel_rfl) (by kernel_rfl) (by kernel_rfl) (fun _ _ _ h => h) (by rfl) ?_ Hwq2.out ?_
        rotate_left
        · (intro W hW; go_simp; with_reducible rfl)
        refine held_take 21 (v := ?_) rfl (by kernel_rfl) (by kernel_rfl) (by kernel_rfl) (fun _ _ _ h => h) (by rfl) ?_ Hwq2.out ?_
        rotate_left
        · (intro W hW; go_simp; with_reducible rfl)
        refine held_norm (a' := ?_) ?_ ?_
        rotate_left
        · (go_simp; with_reducible rfl)
        refine held_take 22 (v := ?_) rfl (by kernel_rfl) (by kernel_rfl) (by kernel_rfl) (fun _ _ _ h => h) (by rfl) ?_ Hwq2.out ?_
        rotate_left
        · (intro W hW; obtain ⟨hl2, q0⟩ := HRo.out W hW; go_simp; with_reducible rfl)
        refine held_norm (a' := ?_) ?_ ?_
        rotate_left
        · (go_simp; with_reducible rfl)
        refine held_call 18 (by kernel_rfl) rfl (by rfl) (fun K hK => ?_)
        go_simp
        go_wp2_with (go_at_call 32; (with_reducible refine (HP2.out _ Hwq2.out).grows.mono ?_); rintro e wq3 ⟨rfl, hgx⟩; have Hwq3 := Lib.hid (show Grew wr wq3 from (Hwq2.out).trans hgx); clear hgx)
        refine hK.out _ _ Hwq3.out ?_
        clear hK K
        refine held_call 23 (by kernel_rfl) rfl (by rfl) (fun K hK => ?_)
        go_simp
        go_wp2_with (go_at_call 40; (with_reducible refine (HR1.out _ Hwq3.out).grows.mono ?_); rintro e wq4 ⟨rfl, hgx⟩; have Hwq4 := Lib.hid (show Grew wr wq4 from (Hwq3.out).trans hgx); clear hgx)
        refine hK.out _ _ Hwq4.out ?_
        clear hK K
        refine held_take 24 (v := ?_) rfl (by kernel_rfl) (by kernel_rfl) (by kernel_rfl) (fun _ _ _ h => h) (by rfl) ?_ Hwq4.out ?_
        rotate_left
        · (intro W hW; go_simp; with_reducible rfl)
        refine held_take 25 (v := ?_) rfl (by kernel_rfl) (by kernel_rfl) (by kernel_rfl) (fun _ _ _ h => h) (by rfl) ?_ Hwq4.out ?_
        rotate_left
        · (intro W hW; go_simp; with_reducible rfl)
        refine held_norm (a' := ?_) ?_ ?_
        rotate_left
        · (go_simp; with_reducible rfl)
        refine held_done (by kernel_rfl) ?_
        go_wp2
        exact ⟨⟨j + 1, by omega, by go_num, HG.out.trans Hwq4.out⟩, by simp only [intOf]; omega⟩
      · obtain rfl : j = ka.length := by omega
        have e0 : decide ((ka.length : Int) < (ka.length : Int)) = false := decide_eq_false (by omega)
        go_wp2
        go_loopw [15] (fun i wr => KpAt wc kb.length i wr) (fun i _ => kb.length - (intOf i).toNat)
        case atStart => exact ⟨0, Nat.zero_le _, rfl, HG.out⟩
        case round =>
          clear HG
          obtain ⟨j, hj, rfl, hg⟩ := hrel
          have HG := Lib.hid hg
          clear hg
          by_cases h : j < kb.length
          · have hji : (j : Int) < (kb.length : Int) := by omega
            have e0 : decide ((j : Int) < (kb.length : Int)) = true := decide_eq_true hji
            obtain ⟨kx, ko, PA, kk, rfl, hkx, c0', hka', hva⟩ := rwsR_at RB.out h
            have hmem := List.getElem_mem h
            have HRo : Hid (∀ W, Grew wr W → kx < W.heap.size ∧ W.cell? ⟨kx, ko + j, none⟩ = some (.slice PA kb[j].length kk)) := Lib.hid fun W hW => ⟨Nat.lt_of_lt_of_le hkx (HGc.out.trans (HG.out.trans hW)).size, ((HGc.out.trans (HG.out.trans hW)).cell (a := ⟨kx, ko + j, none⟩) hkx).trans c0'⟩
            have HP2 : Hid (∀ W, Grew wr W → Gives Tryd.prog 32 #[.agg #[.slice (some ⟨gu, 0, none⟩) nw cu, .int .i64 nk, .slice Su lu du, .int .i64 seed, .int .i64 cnu], .slice PA kb[j].length kk] W (.bool (wholeV kb[j]))) := Lib.hid fun W hW => HPU.out W _ PA kk (Or.inr hmem) (HG.out.trans hW) (hva.grew (HGc.out.trans (HG.out.trans hW)))
            have HR1 : Hid (∀ W, Grew wr W → Gives Tryd.prog 40 #[.slice PA kb[j].length kk] W (.bool (wholeV kb[j]))) := Lib.hid fun W hW => HRw.out W _ PA kk (Or.inr hmem) (hva.grew (HGc.out.trans (HG.out.trans hW)))
            have HSr := Lib.hid (fun W (hW : Grew wr W) => HSc.out W (HG.out.trans hW))
            clear hmem hkx c0' hka' hva
            generalize kb[j] = r at *
            generalize wholeV r = t at *
            have et : (t != t) = false := by simp
            go_upto_region 15 with fail
            refine wp_region_S (fun W => Grew wr W) (by kernel_rfl) ?_
            refine held_take 0 (v := ?_) rfl (by kernel_rfl) (by kernel_rfl) (by kernel_rfl) (fun _ _ _ h => h) (by rfl) ?_ (Grew.refl wr).drew ?_
            rotate_left
            · (intro W hW; obtain ⟨⟨hl0, q0, q1, q2, q3, q4⟩, hl1, p0, p1, p2, p3, p4⟩ := HSr.out W hW; go_simp; with_reducible rfl)
            refine held_norm (a' := ?_) ?_ ?_
            rotate_left
            · (go_simp; with_reducible rfl)
            refine held_take 1 (v := ?_) rfl (by kernel_rfl) (by kernel_rfl) (by kernel_rfl) (fun _ _ _ h => h) (by rfl) ?_ (Grew.refl wr).drew ?_
            rotate_left
            · (intro W hW; go_simp; with_reducible rfl)
            refine held_take 2 (v := ?_) rfl (by kernel_rfl) (by kernel_rfl) (by kernel_rfl) (fun _ _ _ h => h) (by rfl) ?_ (Grew.refl wr).drew ?_
            rotate_left
            · (intro W hW; go_simp; with_reducible rfl)
            refine held_take 3 (v := ?_) rfl (by kernel_rfl) (by kernel_rfl) (by kernel_rfl) (fun _ _ _ h => h) (by rfl) ?_ (Grew.refl wr).drew ?_
            rotate_left
            · (intro W hW; go_simp; with_reducible rfl)
            refine held_norm (a' := ?_) ?_ ?_
            rotate_left
            · (go_simp; with_reducible rfl)
            refine held_take 4 (v := ?_) rfl (by kernel_rfl) (by kernel_rfl) (by kernel_rfl) (fun _ _ _ h => h) (by rfl) ?_ (Grew.refl wr).drew ?_
            rotate_left
            · (intro W hW; obtain ⟨hl2, q0⟩ := HRo.out W hW; go_simp; with_reducible rfl)
            refine held_norm (a' := ?_) ?_ ?_
            rotate_left
            · (go_simp; with_reducible rfl)
            refine held_take 6 (v := ?_) rfl (by kernel_rfl) (by kernel_rfl) (by kernel_rfl) (fun _ _ _ h => h) (by rfl) ?_ (Grew.refl wr).drew ?_
            rotate_left
            · (intro W hW; go_simp; with_reducible rfl)
            refine held_take 7 (v := ?_) rfl (by kernel_rfl) (by kernel_rfl) (by kernel_rfl) (fun _ _ _ h => h) (by rfl) ?_ (Grew.refl wr).drew ?_
            rotate_left
            · (intro W hW; go_simp; with_reducible rfl)
            refine held_take 8 (v := ?_) rfl (by kernel_rfl) (by kernel_rfl) (by kernel_rfl) (fun _ _ _ h => h) (by rfl) ?_ (Grew.refl wr).drew ?_
            rotate_left
            · (intro W hW; go_simp; with_reducible rfl)
            refine held_norm (a' := ?_) ?_ ?_
            rotate_left
            · (go_simp; with_reducible rfl)
            refine held_take 9 (v := ?_) rfl (by kernel_rfl) (by kernel_rfl) (by kernel_rfl) (fun _ _ _ h => h) (by rfl) ?_ (Grew.refl wr).drew ?_
            rotate_left
            · (intro W hW; obtain ⟨hl2, q0⟩ := HRo.out W hW; go_simp; with_reducible rfl)
            refine held_norm (a' := ?_) ?_ ?_
            rotate_left
            · (go_simp; with_reducible rfl)
            refine held_call 5 (by kernel_rfl) rfl (by rfl) (fun K hK => ?_)
            go_simp
            go_wp2_with (go_at_call 32; (with_reducible refine (HP2.out _ (Grew.refl wr).drew).grows.mono ?_); rintro e wq1 ⟨rfl, hgx⟩; have Hwq1 := Lib.hid (show Grew wr wq1 from ((Grew.refl wr).drew).trans hgx); clear hgx)
            refine hK.out _ _ Hwq1.out ?_
            clear hK K
            refine held_call 10 (by kernel_rfl) rfl (by rfl) (fun K hK => ?_)
            go_simp
            go_wp2_with (go_at_call 40; (with_reducible refine (HR1.out _ Hwq1.out).grows.mono ?_); rintro e wq2 ⟨rfl, hgx⟩; have Hwq2 := Lib.hid (show Grew wr wq2 from (Hwq1.out).trans hgx); clear hgx)
            refine hK.out _ _ Hwq2.out ?_
            clear hK K
            refine held_take 11 (v := ?_) rfl (by kernel_rfl) (by kernel_rfl) (by kernel_rfl) (fun _ _ _ h => h) (by rfl) ?_ Hwq2.out ?_
            rotate_left
            · (intro W hW; go_simp; with_reducible rfl)
            refine held_norm (a' := ?_) ?_ ?_
            rotate_left
            · (go_simp; with_reducible rfl)
            refine held_done (by kernel_rfl) ?_
            go_wp2
            exact ⟨⟨j + 1, by omega, by go_num, HG.out.trans Hwq2.out⟩, by simp only [intOf]; omega⟩
          · obtain rfl : j = kb.length := by omega
            have e0 : decide ((kb.length : Int) < (kb.length : Int)) = false := decide_eq_false (by omega)
            have HUd : Hid (∀ W (g c : Nat) (S : Option Addr) (d : Nat), Gives Tryd.prog 37 #[.agg #[.slice (some ⟨ga, 0, none⟩) nw ca, .int .i64 nk, .slice Sa la da, .int .i64 seed, .int .i64 na], .agg #[.slice (some ⟨g, 0, none⟩) nw c, .int .i64 nk, .slice S 0 d, .int .i64 (bits .xor .i64 seed 1), .int .i64 0]] W (.tuple #[.agg #[.slice none 0 0, .int .i64 0, .slice none 0 0, .int .i64 0, .int .i64 0], .int .i64 7])) := Lib.hid fun W g c S d => sunion_diff (some ⟨ga, 0, none⟩) Sa (some ⟨g, 0, none⟩) S nw ca la da nw c 0 d nk seed na nk (bits .xor .i64 seed 1) 0 HXor.out.symm W
            obtain ⟨w6, hw6⟩ : ∃ w6 : World, wr = w6 := ⟨_, rfl⟩
            subst hw6
            have HG6 := Lib.hid (HGc.out.trans HG.out)
            have HS6 := Lib.hid (fun W (hW : Grew wr W) => (HSc.out W (HG.out.trans hW)).1)
            clear HSc HPA HPU HRw HG HGc RA RB HXor
            go_upto_region 17 with fail
            go_cut [17] (fun p wx => p = .int .i64 7 ∧ Grew wr wx)
            case first =>
              have HGd := Lib.hid (show Grew wr wr.drew from (Grew.refl _).drew)
              refine wp_region_S (fun W => Grew wr W) (by kernel_rfl) ?_
              generalize wr.drew = wd at *
              refine held_take 0 (v := ?_) rfl (by kernel_rfl) (by kernel_rfl) (by kernel_rfl) (fun _ _ _ h => h) (by rfl) ?_ HGd.out ?_
              rotate_left
              · (intro W hW; obtain ⟨hbl, q0, q1, q2, q3, q4⟩ := HS6.out W hW; go_simp; with_reducible rfl)
              refine held_norm (a' := ?_) ?_ ?_
              rotate_left
              · (go_simp; with_reducible rfl)
              refine held_take 1 (v := ?_) rfl (by kernel_rfl) (by kernel_rfl) (by kernel_rfl) (fun _ _ _ h => h) (by rfl) ?_ HGd.out ?_
              rotate_left
              · (intro W hW; go_simp; with_reducible rfl)
              refine held_norm (a' := ?_) ?_ ?_
              rotate_left
              · (go_simp; with_reducible rfl)
              refine held_take 2 (v := ?_) rfl (by kernel_rfl) (by kernel_rfl) (by kernel_rfl) (fun _ _ _ h => h) (by rfl) ?_ HGd.out ?_
              rotate_left
              · (intro W hW; go_simp; with_reducible rfl)
              refine held_norm (a' := ?_) ?_ ?_
              rotate_left
              · (go_simp; with_reducible rfl)
              refine held_take 3 (v := ?_) rfl (by kernel_rfl) (by kernel_rfl) (by kernel_rfl) (fun _ _ _ h => h) (by rfl) ?_ HGd.out ?_
              rotate_left
              · (intro W hW; go_simp; with_reducible rfl)
              refine held_norm (a' := ?_) ?_ ?_
              rotate_left
              · (go_simp; with_reducible rfl)
              refine held_take 4 (v := ?_) rfl (by kernel_rfl) (by kernel_rfl) (by kernel_rfl) (fun _ _ _ h => h) (by rfl) ?_ HGd.out ?_
              rotate_left
              · (intro W hW; go_simp; with_reducible rfl)
              refine held_norm (a' := ?_) ?_ ?_
              rotate_left
              · (go_simp; with_reducible rfl)
              refine held_both 5 10 (by kernel_rfl) rfl rfl (by rfl) (by rfl) (fun K hK => ?_) (fun K hK => ?_)
              · skip
                go_simp
                go_wp2_with fail
                refine (HN.out wd (bits .xor .i64 seed 1)).mono ?_
                rintro e wn ⟨gn, cn, Sn, dn, rfl, hgx, hux⟩
                have HUn := Lib.hid hux
                clear hux
                have HGn := Lib.hid (HGd.out.trans hgx)
                go_wp2_with fail
                clear hgx
                refine hK.out _ _ HGn.out ?_
                clear hK K
                refine held_both 6 10 (by kernel_rfl) rfl rfl (by rfl) (by rfl) (fun K hK => ?_) (fun K hK => ?_)
                · skip
                  go_simp
                  go_wp2_with fail
                  (with_reducible refine (HUd.out wn gn cn Sn dn).grows.mono ?_)
                  rintro e wu ⟨rfl, hgx⟩
                  have HGu := Lib.hid (HGn.out.trans hgx)
                  go_wp2_with fail
                  clear hgx
                  refine hK.out _ _ HGu.out ?_
                  clear hK K
                  refine held_take 7 (v := ?_) rfl (by kernel_rfl) (by kernel_rfl) (by kernel_rfl) (fun _ _ _ h => h) (by rfl) ?_ HGu.out ?_
                  rotate_left
                  · (intro W hW; go_simp; with_reducible rfl)
                  refine held_norm (a' := ?_) ?_ ?_
                  rotate_left
                  · (go_simp; with_reducible rfl)
                  refine held_take 8 (v := ?_) rfl (by kernel_rfl) (by kernel_rfl) (by kernel_rfl) (fun _ _ _ h => h) (by rfl) ?_ HGu.out ?_
                  rotate_left
                  · (intro W hW; go_simp; with_reducible rfl)
                  refine held_norm (a' := ?_) ?_ ?_
                  rotate_left
                  · (go_simp; with_reducible rfl)
                  refine held_take 9 (v := ?_) rfl (by kernel_rfl) (by kernel_rfl) (by kernel_rfl) (fun _ _ _ h => h) (by rfl) ?_ HGu.out ?_
                  rotate_left
                  · (intro W hW; go_simp; with_reducible rfl)
                  refine held_norm (a' := ?_) ?_ ?_
                  rotate_left
                  · (go_simp; with_reducible rfl)
                  refine held_call 10 (by kernel_rfl) rfl (by rfl) (fun K hK => ?_)
                  go_simp
                  go_wp2_with fail
                  obtain ⟨wz, hwz⟩ : ∃ wz, wu.alloc (.cells #[.slice none 0 0, .int .i64 0, .slice none 0 0, .int .i64 0, .int .i64 0] 49) = wz := ⟨_, rfl⟩
                  have hgx : Grew wu wz := by rw [← hwz]; exact (Grew.refl _).alloc _
                  have hbz : Blok wz wu.heap.size 49 #[.slice none 0 0, .int .i64 0, .slice none 0 0, .int .i64 0, .int .i64 0] := by rw [← hwz]; exact Blok.new _ _ _ _ rfl
                  have hzl : wr.heap.size ≤ wu.heap.size := HGu.out.size
                  obtain ⟨gz, hgz⟩ : ∃ gz, wu.heap.size = gz := ⟨_, rfl⟩
                  rw [hgz] at hbz hzl ⊢
                  rw [hwz]
                  have HBz := Lib.hid hbz
                  have HZl := Lib.hid hzl
                  have HGz := Lib.hid (HGu.out.trans hgx)
                  clear hgx
                  refine hK.out _ _ HGz.out ?_
                  clear hK K
                  have hz := HBz.out
                  have m0 := hz.cell 0
                  have m1 := hz.cell 1
                  have m2 := hz.cell 2
                  have m3 := hz.cell 3
                  have m4 := hz.cell 4
                  simp at m0 m1 m2 m3 m4
                  have x0 := hz.thaw 0
                  have x1 := hz.thaw 1
                  have x2 := hz.thaw 2
                  have x3 := hz.thaw 3
                  have x4 := hz.thaw 4
                  have hbl := hz.lt
                  obtain ⟨W7, hW7⟩ : ∃ W7, (((((wz.setCell ⟨gz, 0, none⟩ (.slice none 0 0)).setCell ⟨gz, 1, none⟩ (.int .i64 0)).setCell ⟨gz, 2, none⟩ (.slice none 0 0)).setCell ⟨gz, 3, none⟩ (.int .i64 0)).setCell ⟨gz, 4, none⟩ (.int .i64 0)) = W7 := ⟨_, rfl⟩
                  have hG7 : Grew wr W7 := by
                    rw [← hW7]
                    exact Grew.setCell (Grew.setCell (Grew.setCell (Grew.setCell (Grew.setCell HGz.out HZl.out _) HZl.out _) HZl.out _) HZl.out _) HZl.out _
                  have HG7 := Lib.hid hG7
                  have HW7 := Lib.hid hW7
                  clear hz hG7 hW7
                  refine held_call 11 (by kernel_rfl) rfl (by rfl) (fun K hK => ?_)
                  go_simp
                  go_wp2_with fail
                  rw [HW7.out]
                  refine hK.out _ _ HG7.out ?_
                  clear hK K m0 m1 m2 m3 m4 x0 x1 x2 x3 x4 hbl HW7
                  refine held_take 12 (v := ?_) rfl (by kernel_rfl) (by kernel_rfl) (by kernel_rfl) (fun _ _ _ h => h) (by rfl) ?_ HG7.out ?_
                  rotate_left
                  · (intro W hW; go_simp; with_reducible rfl)
                  refine held_norm (a' := ?_) ?_ ?_
                  rotate_left
                  · (go_simp; with_reducible rfl)
                  refine held_done (by kernel_rfl) ?_
                  go_wp2_with fail
                  go_meet
                  exact ⟨rfl, HG7.out⟩
                · skip
                  go_simp
                  go_wp2_with fail
                  obtain ⟨wz, hwz⟩ : ∃ wz, wn.alloc (.cells #[.slice none 0 0, .int .i64 0, .slice none 0 0, .int .i64 0, .int .i64 0] 49) = wz := ⟨_, rfl⟩
                  have hgx : Grew wn wz := by rw [← hwz]; exact (Grew.refl _).alloc _
                  have hbz : Blok wz wn.heap.size 49 #[.slice none 0 0, .int .i64 0, .slice none 0 0, .int .i64 0, .int .i64 0] := by rw [← hwz]; exact Blok.new _ _ _ _ rfl
                  have hzl : wr.heap.size ≤ wn.heap.size := HGn.out.size
                  obtain ⟨gz, hgz⟩ : ∃ gz, wn.heap.size = gz := ⟨_, rfl⟩
                  rw [hgz] at hbz hzl ⊢
                  rw [hwz]
                  have HBz := Lib.hid hbz
                  have HZl := Lib.hid hzl
                  have HGz := Lib.hid (HGn.out.trans hgx)
                  have HUn2 := Lib.hid (Row.grew HUn.out hgx)
                  clear hgx
                  refine hK.out _ _ HGz.out ?_
                  clear hK K
                  refine held_call 6 (by kernel_rfl) rfl (by rfl) (fun K hK => ?_)
                  go_simp
                  go_wp2_with fail
                  (with_reducible refine (HUd.out wz gn cn Sn dn).grows.mono ?_)
                  rintro e wu ⟨rfl, hgx⟩
                  have HGu := Lib.hid (HGz.out.trans hgx)
                  have HB3 := Lib.hid (HBz.out.grew hgx)
                  go_wp2_with fail
                  clear hgx
                  refine hK.out _ _ HGu.out ?_
                  clear hK K
                  refine held_take 7 (v := ?_) rfl (by kernel_rfl) (by kernel_rfl) (by kernel_rfl) (fun _ _ _ h => h) (by rfl) ?_ HGu.out ?_
                  rotate_left
                  · (intro W hW; go_simp; with_reducible rfl)
                  refine held_norm (a' := ?_) ?_ ?_
                  rotate_left
                  · (go_simp; with_reducible rfl)
                  refine held_take 8 (v := ?_) rfl (by kernel_rfl) (by kernel_rfl) (by kernel_rfl) (fun _ _ _ h => h) (by rfl) ?_ HGu.out ?_
                  rotate_left
                  · (intro W hW; go_simp; with_reducible rfl)
                  refine held_norm (a' := ?_) ?_ ?_
                  rotate_left
                  · (go_simp; with_reducible rfl)
                  refine held_take 9 (v := ?_) rfl (by kernel_rfl) (by kernel_rfl) (by kernel_rfl) (fun _ _ _ h => h) (by rfl) ?_ HGu.out ?_
                  rotate_left
                  · (intro W hW; go_simp; with_reducible rfl)
                  refine held_norm (a' := ?_) ?_ ?_
                  rotate_left
                  · (go_simp; with_reducible rfl)
                  have hz := HB3.out
                  have m0 := hz.cell 0
                  have m1 := hz.cell 1
                  have m2 := hz.cell 2
                  have m3 := hz.cell 3
                  have m4 := hz.cell 4
                  simp at m0 m1 m2 m3 m4
                  have x0 := hz.thaw 0
                  have x1 := hz.thaw 1
                  have x2 := hz.thaw 2
                  have x3 := hz.thaw 3
                  have x4 := hz.thaw 4
                  have hbl := hz.lt
                  obtain ⟨W7, hW7⟩ : ∃ W7, (((((wu.setCell ⟨gz, 0, none⟩ (.slice none 0 0)).setCell ⟨gz, 1, none⟩ (.int .i64 0)).setCell ⟨gz, 2, none⟩ (.slice none 0 0)).setCell ⟨gz, 3, none⟩ (.int .i64 0)).setCell ⟨gz, 4, none⟩ (.int .i64 0)) = W7 := ⟨_, rfl⟩
                  have hG7 : Grew wr W7 := by
                    rw [← hW7]
                    exact Grew.setCell (Grew.setCell (Grew.setCell (Grew.setCell (Grew.setCell HGu.out HZl.out _) HZl.out _) HZl.out _) HZl.out _) HZl.out _
                  have HG7 := Lib.hid hG7
                  have HW7 := Lib.hid hW7
                  clear hz hG7 hW7
                  refine held_call 11 (by kernel_rfl) rfl (by rfl) (fun K hK => ?_)
                  go_simp
                  go_wp2_with fail
                  rw [HW7.out]
                  refine hK.out _ _ HG7.out ?_
                  clear hK K m0 m1 m2 m3 m4 x0 x1 x2 x3 x4 hbl HW7
                  refine held_take 12 (v := ?_) rfl (by kernel_rfl) (by kernel_rfl) (by kernel_rfl) (fun _ _ _ h => h) (by rfl) ?_ HG7.out ?_
                  rotate_left
                  · (intro W hW; go_simp; with_reducible rfl)
                  refine held_norm (a' := ?_) ?_ ?_
                  rotate_left
                  · (go_simp; with_reducible rfl)
                  refine held_done (by kernel_rfl) ?_
                  go_wp2_with fail
                  go_meet
                  exact ⟨rfl, HG7.out⟩
              · skip
                go_simp
                go_wp2_with fail
                obtain ⟨wz, hwz⟩ : ∃ wz, wd.alloc (.cells #[.slice none 0 0, .int .i64 0, .slice none 0 0, .int .i64 0, .int .i64 0] 49) = wz := ⟨_, rfl⟩
                have hgx : Grew wd wz := by rw [← hwz]; exact (Grew.refl _).alloc _
                have hbz : Blok wz wd.heap.size 49 #[.slice none 0 0, .int .i64 0, .slice none 0 0, .int .i64 0, .int .i64 0] := by rw [← hwz]; exact Blok.new _ _ _ _ rfl
                have hzl : wr.heap.size ≤ wd.heap.size := HGd.out.size
                obtain ⟨gz, hgz⟩ : ∃ gz, wd.heap.size = gz := ⟨_, rfl⟩
                rw [hgz] at hbz hzl ⊢
                rw [hwz]
                have HBz := Lib.hid hbz
                have HZl := Lib.hid hzl
                have HGz := Lib.hid (HGd.out.trans hgx)
                clear hgx
                refine hK.out _ _ HGz.out ?_
                clear hK K
                refine held_call 5 (by kernel_rfl) rfl (by rfl) (fun K hK => ?_)
                go_simp
                go_wp2_with fail
                refine (HN.out wz (bits .xor .i64 seed 1)).mono ?_
                rintro e wn ⟨gn, cn, Sn, dn, rfl, hgx, hux⟩
                have HUn := Lib.hid hux
                clear hux
                have HGn := Lib.hid (HGz.out.trans hgx)
                have HB2 := Lib.hid (HBz.out.grew hgx)
                go_wp2_with fail
                clear hgx
                refine hK.out _ _ HGn.out ?_
                clear hK K
                refine held_call 6 (by kernel_rfl) rfl (by rfl) (fun K hK => ?_)
                go_simp
                go_wp2_with fail
                (with_reducible refine (HUd.out wn gn cn Sn dn).grows.mono ?_)
                rintro e wu ⟨rfl, hgx⟩
                have HGu := Lib.hid (HGn.out.trans hgx)
                have HB3 := Lib.hid (HB2.out.grew hgx)
                go_wp2_with fail
                clear hgx
                refine hK.out _ _ HGu.out ?_
                clear hK K
                refine held_take 7 (v := ?_) rfl (by kernel_rfl) (by kernel_rfl) (by kernel_rfl) (fun _ _ _ h => h) (by rfl) ?_ HGu.out ?_
                rotate_left
                · (intro W hW; go_simp; with_reducible rfl)
                refine held_norm (a' := ?_) ?_ ?_
                rotate_left
                · (go_simp; with_reducible rfl)
                refine held_take 8 (v := ?_) rfl (by kernel_rfl) (by kernel_rfl) (by kernel_rfl) (fun _ _ _ h => h) (by rfl) ?_ HGu.out ?_
                rotate_left
                · (intro W hW; go_simp; with_reducible rfl)
                refine held_norm (a' := ?_) ?_ ?_
                rotate_left
                · (go_simp; with_reducible rfl)
                refine held_take 9 (v := ?_) rfl (by kernel_rfl) (by kernel_rfl) (by kernel_rfl) (fun _ _ _ h => h) (by rfl) ?_ HGu.out ?_
                rotate_left
                · (intro W hW; go_simp; with_reducible rfl)
                refine held_norm (a' := ?_) ?_ ?_
                rotate_left
                · (go_simp; with_reducible rfl)
                have hz := HB3.out
                have m0 := hz.cell 0
                have m1 := hz.cell 1
                have m2 := hz.cell 2
                have m3 := hz.cell 3
                have m4 := hz.cell 4
                simp at m0 m1 m2 m3 m4
                have x0 := hz.thaw 0
                have x1 := hz.thaw 1
                have x2 := hz.thaw 2
                have x3 := hz.thaw 3
                have x4 := hz.thaw 4
                have hbl := hz.lt
                obtain ⟨W7, hW7⟩ : ∃ W7, (((((wu.setCell ⟨gz, 0, none⟩ (.slice none 0 0)).setCell ⟨gz, 1, none⟩ (.int .i64 0)).setCell ⟨gz, 2, none⟩ (.slice none 0 0)).setCell ⟨gz, 3, none⟩ (.int .i64 0)).setCell ⟨gz, 4, none⟩ (.int .i64 0)) = W7 := ⟨_, rfl⟩
                have hG7 : Grew wr W7 := by
                  rw [← hW7]
                  exact Grew.setCell (Grew.setCell (Grew.setCell (Grew.setCell (Grew.setCell HGu.out HZl.out _) HZl.out _) HZl.out _) HZl.out _) HZl.out _
                have HG7 := Lib.hid hG7
                have HW7 := Lib.hid hW7
                clear hz hG7 hW7
                refine held_call 11 (by kernel_rfl) rfl (by rfl) (fun K hK => ?_)
                go_simp
                go_wp2_with fail
                rw [HW7.out]
                refine hK.out _ _ HG7.out ?_
                clear hK K m0 m1 m2 m3 m4 x0 x1 x2 x3 x4 hbl HW7
                refine held_take 12 (v := ?_) rfl (by kernel_rfl) (by kernel_rfl) (by kernel_rfl) (fun _ _ _ h => h) (by rfl) ?_ HG7.out ?_
                rotate_left
                · (intro W hW; go_simp; with_reducible rfl)
                refine held_norm (a' := ?_) ?_ ?_
                rotate_left
                · (go_simp; with_reducible rfl)
                refine held_done (by kernel_rfl) ?_
                go_wp2_with fail
                go_meet
                exact ⟨rfl, HG7.out⟩
            case rest =>
              obtain ⟨rfl, hgx⟩ := hcut
              have HGx := Lib.hid (HG6.out.trans hgx)
              clear hgx HUd HS6 HN HG6
              go_wp2_with fail
              (with_reducible refine (code20_any 7 _).grows.mono ?_)
              rintro e w9 ⟨rfl, hgx⟩
              have HG9 := Lib.hid (HGx.out.trans hgx)
              clear hgx HGx
              go_wp2_with fail
              (with_reducible refine (HLive.out w9 HG9.out).grows.mono ?_)
              rintro e w10 ⟨rfl, hgx⟩
              have HG10 := Lib.hid (HG9.out.trans hgx)
              clear hgx HG9 HLive
              go_wp2
              go_ret
              exact ⟨rfl, HG10.out⟩
end Go.Proofs.YtklhledcnijchaaDoor

/- Rows of an argument, and how much memory they take at most. No condition beyond the row's own. -/
namespace Go.Proofs.YtklhledcnijchaaDoor
open Go.RowKit
theorem rdw_rowsT {H : Type} {enc : TypeId × Value → H} {W : World} : RdW enc Tryd.prog W 24 1 (fun (x : List (List Vl)) cs => (∃ A c, cs = [.slice A x.length c] ∧ x.length ≤ c ∧ RwsR (PRow W) A x) ∧ (RwsOk x ∧ x.length * 24 ≤ 140737488351232)) :=
  rdw_map (rdw_slice Tryd.underlying24 (by kernel_rfl) (by decide) (bytes := 24) (by kernel_rfl) rdw_row) fun l cs ⟨A, c, css, h1, h2, _, h4, h5, h6⟩ =>
    ⟨⟨A, c, h1, h2, css, h5.each.1, h6⟩, ⟨cap_small h2 (by decide) h4, h5.each.2⟩, by unfold reachBytes at h4; have := Nat.mul_le_mul_right 24 h2; omega⟩
end Go.Proofs.YtklhledcnijchaaDoor

namespace Go.Proofs.YtklhledcnijchaaDoor.siftKeeps
open Go.RowKit Go.ChangeShapes Go.WideShapes Go.ChangeAt Go.Joins

theorem reads : ∀ t ∈ Tryd.f7.params.toList, Tryd.prog.readableRec t = true ∧ t < Tryd.prog.types.size := by
  rw [Tryd.params7]
  intro t ht
  simp only [List.mem_cons, List.not_mem_nil, or_false] at ht
  rcases ht with rfl | rfl | rfl | rfl | rfl
  all_goals exact ⟨by kernel_rfl, of_decide_eq_true (by kernel_rfl)⟩

/-- The door's own heap meets the condition. -/
theorem door_met (os : Os) (args : Array Value) : laidMetH Tryd.prog Rows.siftKeepsRow.laid ((World.doorLaid Tryd.prog 600 os).forCall (fun _ _ => 0) ⟨#[], args, []⟩).memory :=
  laidMetH_of_parts3 (fuel := 8) (laidMet_of_run' 8 (by kernel_rfl) (by kernel_rfl)) (by kernel_rfl) (by kernel_rfl)
/-- What the condition gives a walk: the table of powers. -/
theorem of_laid {W : World} (h : laidMetH Tryd.prog Rows.siftKeepsRow.laid W) : Lib.TabIs Tryd.prog W "internal/strconv.uint64pow10" .u64 Lib.pow10Tab := by
  rw [MakeChecks.laidMetH_plain _ _ _ (by kernel_rfl)] at h
  have h2 : laidMet Tryd.prog (("internal/strconv.uint64pow10", Lib.tabData .u64 Lib.pow10Tab) :: []) W := laidMet.tail (laidMet.tail h)
  exact Lib.tabIs_of_head (g := 1) (t := 145) (e := 84) (n := 20) (by kernel_rfl) (by kernel_rfl) (by kernel_rfl) (by kernel_rfl) (by kernel_rfl) (by kernel_rfl) h2
set_option maxRecDepth 100000 in
theorem lifted (os : Os) (started : os.Started) (H : Type) (enc : TypeId × Value → H) :
    ReturnsInHanded {} Tryd.checked os 7 .any (fun w args => (Rows.siftKeepsSpec.pre enc Tryd.prog Tryd.f7 [] false w args ∧ laidMetH Tryd.prog Rows.siftKeepsRow.laid w) ∧ sizedMet enc Tryd.prog Tryd.f7 (OpenSpec.ofChange Rows.siftKeepsSpec) false w args)
      (Rows.siftKeepsSpec.post enc Tryd.prog Tryd.f7 false true false false) := by
  refine returnsInHanded_of_change_and (C := Tryd.checked) (X := fun w _ => laidMetH Tryd.prog Rows.siftKeepsRow.laid w) (fun _ _ _ hh h => h.of_heap hh) own started (by kernel_rfl) Tryd.func7
    (ChangeSpec.witness_shaped (enc := enc) (C := Tryd.checked) (os := os) (X := fun w _ => laidMetH Tryd.prog Rows.siftKeepsRow.laid w) false (World.doorLaid Tryd.prog 600 os) #[.int .i64 0, .int .i64 0, .int .i64 0, .slice none 0 0, .slice none 0 0] 8 rfl (World.shaped_of_RefB (by kernel_rfl) (by kernel_rfl)) (by kernel_rfl) (by kernel_rfl) (by kernel_rfl) (door_met os _)) ?_
  intro W base args ds gs before hval0 hW hcnd hsz0 hL _
  have hval : ∀ (j : Nat) t v, Tryd.f7.params[j]? = some t → args[j]? = some v → Value.okWide Tryd.prog W .any base t v := hval0
  have hW' := hW
  obtain ⟨p, q, hA0, hV, hpq, hfz, hnd⟩ := hW
  have hA : DataW.TrodAll enc Tryd.prog W 0 (fun _ => true) true Tryd.f7.params.toList args.toList ds p := hA0
  rw [Tryd.params7] at hA hval
  obtain ⟨v0, vs0, d0, ds0, p0, q0, hargs, rfl, rfl, h0, r0⟩ := trodAll_cons hA
  obtain ⟨v1, vs1, d1, ds1, p1, q1, rfl, rfl, rfl, h1, r1⟩ := trodAll_cons r0
  obtain ⟨v2, vs2, d2, ds2, p2, q2, rfl, rfl, rfl, h2, r2⟩ := trodAll_cons r1
  obtain ⟨v3, vs3, d3, ds3, p3, q3, rfl, rfl, rfl, h3, r3⟩ := trodAll_cons r2
  obtain ⟨v4, vs4, d4, ds4, p4, q4, rfl, rfl, rfl, h4, r4⟩ := trodAll_cons r3
  obtain ⟨rfl, rfl, rfl⟩ := trodAll_nil r4
  obtain rfl : args = #[v0, v1, v2, v3, v4] := by cases args; simp_all
  obtain ⟨rfl, rfl⟩ := trodVars_none hV
  have hz : (DataW.weightsEach Tryd.prog [3, 3, 3, 24, 24] [d0, d1, d2, d3, d4]).all (· ≤ reachBytes) = true := hsz0
  simp only [DataW.weightsEach, List.all_append, List.append_nil, Bool.and_eq_true] at hz
  obtain ⟨zz0, zz1, zz2, zz3, zz4⟩ := hz
  obtain ⟨seed, rfl, rfl, rfl, wseed⟩ := open_int Tryd.underlying3 (hval 0 3 v0 rfl rfl) h0
  obtain ⟨words, rfl, rfl, rfl, wwords⟩ := open_int Tryd.underlying3 (hval 1 3 v1 rfl rfl) h1
  obtain ⟨nb, rfl, rfl, rfl, wnb⟩ := open_int Tryd.underlying3 (hval 2 3 v2 rfl rfl) h2
  have o3 := rdw_arg_slice Tryd.underlying24 rdw_rowsT (hval 3 24 v3 rfl rfl) h3 zz3
  obtain ⟨ka, ⟨kaA, kac, eka, cka, rka⟩, kka⟩ := o3
  obtain rfl := List.cons.inj eka |>.1
  have o4 := rdw_arg_slice Tryd.underlying24 rdw_rowsT (hval 4 24 v4 rfl rfl) h4 zz4
  obtain ⟨kb, ⟨kbA, kbc, ekb, ckb, rkb⟩, kkb⟩ := o4
  obtain rfl := List.cons.inj ekb |>.1
  have htab := of_laid hL
  refine (siftKeeps_walk seed words nb ka kb kaA kbA kac kbc W kka.1 kkb.1 kka.2 kkb.2 rka rkb htab).mono fun e W' ⟨he, hg⟩ => ?_
  subst he
  exact ⟨_, rfl, law_post hW' rfl rfl Tryd.underlying4 rfl rfl rfl laid_out reads (Grew.below hg)⟩

theorem over : Rows.siftKeepsRow.holds Tryd.pinned (OpenSpec.ofChange Rows.siftKeepsSpec) :=
  OpenClaim.holds_of_wide 7 Tryd.f7 rfl rfl rfl rfl rfl rfl rfl ⟨rfl, rfl, rfl, rfl, rfl⟩ rfl rfl rfl rfl rfl (by kernel_rfl) Tryd.func7 (by kernel_rfl)
    (of_decide_eq_true (by kernel_rfl)) (by unfold Func.isWrapper; first | (rw [if_pos (by decide +kernel)]; kernel_rfl) | (rw [if_neg (by decide +kernel)]; exact ⟨rfl, rfl⟩))
    (fun os started H enc _ => lifted os started H enc)

theorem proved : Rows.SiftKeepsCardSaid :=
  Claim7.holds_tied_plain_at .later [] [.data, .data, .data] true (true, "62f77e6609a3b074cfe6888507b17c646aeb202f5ff98d30075b8d8c50c6a5e1") false
    over (fun _ h => by cases h) (by kernel_rfl) (fun _ h => by cases h) siftKeeps_row_tie rfl ⟨rfl, rfl⟩ (by kernel_rfl) rfl
    (fun f fn hf hfn => by
      obtain rfl : f = 7 := Option.some.inj ((show Tryd.prog.funcNamed "trommel/trommellaw20.SiftKeeps" = some 7 by kernel_rfl).symm.trans hf) |>.symm
      obtain rfl : fn = Tryd.f7 := (Option.some.inj (Tryd.func7.symm.trans hfn)).symm
      exact ⟨by kernel_rfl, fun j t ht => by
        rw [Tryd.params7] at ht
        have hm : t ∈ [3, 3, 3, 24, 24] := by simpa using Array.mem_of_getElem? ht
        have hall : ([3, 3, 3, 24, 24].all fun u => !Tryd.prog.wantsStandIn u) = true := by kernel_rfl
        exact (show Tryd.prog.wantsStandIn t = false by simpa using List.all_eq_true.1 hall t hm)⟩)
    (by kernel_rfl)

end Go.Proofs.YtklhledcnijchaaDoor.siftKeeps
