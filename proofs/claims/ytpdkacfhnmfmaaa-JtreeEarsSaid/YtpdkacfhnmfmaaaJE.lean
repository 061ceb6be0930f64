/- Layer 23: the law of the parents that ears tell. Condition: numbers that an int holds. -/
import Derived.Test.YtpdkacfhnmfmaaaJB
import Derived.Test.YtpdkacfhnmfmaaaIns
import Derived.Deep.QuietTactic
import Derived.BigQuiet
import Derived.RangeFuncBox
import Derived.RangeFuncLeaves
import Derived.RangeFuncWrites
import Derived.Shelf.Abstract
import Derived.WalkKit
import Derived.OwnWalkIn
import Derived.TacticsInMore
import Derived.LoopNIn
import Derived.LoopIn
import Derived.Maps.AppendAt
import Derived.Laws.CopyOwn

/- Layer 23: the parents that ears tell are a join tree by vertices. -/
namespace Go.Proofs.Ytpdkacfhnmfmaaa
open Go.RowKit

theorem one_count (f : Nat → Bool) (x : Nat) : ∀ n, x < n → (∀ i, i < n → (f i = true ↔ i = x)) → ((List.range n).filter f).length = 1 := by
  intro n
  induction n with
  | zero => intro h; omega
  | succ n ih =>
    intro hx h
    rw [List.range_succ, List.filter_append, List.length_append]
    by_cases e : x = n
    · subst e
      have h1 : (List.range x).filter f = [] := by
        rw [List.filter_eq_nil_iff]
        intro i hi hf
        have hi' := List.mem_range.1 hi
        have := (h i (by omega)).1 hf
        omega
      rw [h1]
      have h2 : f x = true := (h x (by omega)).2 rfl
      simp [h2]
    · have h1 : f n = false := by
        cases hf : f n with
        | false => rfl
        | true =>
          have := (h n (by omega)).1 hf
          omega
      rw [ih (by omega) fun i hi => h i (by omega)]
      simp [h1]
section
variable {h : List (List Int)} {ps : List Int} {rk : Nat → Nat}
theorem Ranked.best (R : Ranked h ps rk) (v : Int) : ∀ (d a : Nat), a < h.length → h.length - rk a ≤ d → v ∈ edgeAt h a → ∃ x, x < h.length ∧ v ∈ edgeAt h x ∧ ∀ b, b < h.length → v ∈ edgeAt h b → rk b ≤ rk x := by
  intro d
  induction d with
  | zero =>
    intro a ha hd hv
    refine ⟨a, ha, hv, fun b hb _ => ?_⟩
    have h1 := (R.low a ha).2
    have h2 := (R.low b hb).2
    omega
  | succ d ih =>
    intro a ha hd hv
    by_cases hx : ∃ b, b < h.length ∧ v ∈ edgeAt h b ∧ rk a < rk b
    · obtain ⟨b, hb, hvb, hr⟩ := hx
      exact ih b hb (by omega) hvb
    · exact ⟨a, ha, hv, fun b hb hvb => Nat.le_of_not_lt fun hlt => hx ⟨b, hb, hvb, hlt⟩⟩
theorem Ranked.tops (R : Ranked h ps rk) {v : Int} {a : Nat} (ha : a < h.length) (hv : v ∈ edgeAt h a) : topsM h ps v ps.length = 1 := by
  obtain ⟨x, hx, hvx, hmax⟩ := R.best v _ a ha (Nat.le_refl _) hv
  unfold topsM
  refine one_count _ x _ (by rw [R.len]; exact hx) fun i hi => ?_
  have hih : i < h.length := by rw [← R.len]; exact hi
  have ep : ps.getD i 0 = ps[i] := by rw [List.getD_eq_getElem?_getD, List.getElem?_eq_getElem hi]; rfl
  unfold topB
  rw [ep]
  constructor
  · intro ht
    rw [Bool.and_eq_true, decide_eq_true_eq] at ht
    obtain ⟨hvi, hn⟩ := ht
    by_cases e : i = x
    · exact e
    · exfalso
      have hlt : rk i < rk x := by
        rcases Nat.lt_or_ge (rk i) (rk x) with h1 | h1
        · exact h1
        · exact absurd (R.inj i x hih hx (Nat.le_antisymm (hmax i hih hvi) h1)) e
      rcases R.up i hi with ⟨_, h2⟩ | ⟨p, hp, e2, hr, hin⟩
      · have := (R.low x hx).2
        omega
      · have hvp := hin x hx (fun e3 => e e3.symm) hlt v hvi hvx
        rw [e2] at hn
        have h3 : (p : Int).toNat = p := Int.toNat_natCast p
        rw [h3] at hn
        have h4 : v ∈ h.getD p [] := hvp
        rw [decide_eq_true h4, decide_eq_true (show (0 : Int) ≤ (p : Int) by omega)] at hn
        exact absurd hn (by decide)
  · rintro rfl
    have h1 : v ∈ h.getD i [] := hvx
    rw [Bool.and_eq_true, decide_eq_true_eq]
    refine ⟨h1, ?_⟩
    rcases R.up i hi with ⟨e2, _⟩ | ⟨p, hp, e2, hr, _⟩
    · rw [e2]
      rfl
    · rw [e2]
      have h4 : ¬ v ∈ h.getD p [] := fun hvp => by
        have := hmax p hp hvp
        omega
      rw [Int.toNat_natCast, decide_eq_false h4, Bool.and_false]
      rfl
theorem Ranked.check (R : Ranked h ps rk) : checkB h ps = true := by
  unfold checkB
  rw [Bool.and_eq_true, Bool.and_eq_true, decide_eq_true_eq]
  refine ⟨⟨R.len.symm, R.tree⟩, ?_⟩
  rw [List.all_eq_true]
  intro v hv
  have hv' := (setI_mem _ _).1 hv
  obtain ⟨l, hl, hvl⟩ := List.mem_flatten.1 hv'
  obtain ⟨a, ha, rfl⟩ := List.mem_iff_getElem.1 hl
  rw [R.tops ha (by rw [edgeAt_eq ha]; exact hvl)]
  rfl
end
/-- What a join tree by vertices says of each edge's vertices. -/
theorem check_tops {h : List (List Int)} {p : List Int} (hc : checkB h p = true) : h.length = p.length ∧ treeB p = true ∧ ∀ (i : Nat) (hi : i < h.length) (k : Nat) (hk : k < h[i].length), topsM h p h[i][k] p.length = 1 := by
  unfold checkB at hc
  rw [Bool.and_eq_true, Bool.and_eq_true, decide_eq_true_eq, List.all_eq_true] at hc
  refine ⟨hc.1.1, hc.1.2, fun i hi k hk => ?_⟩
  have hm : h[i][k] ∈ setI h.flatten := (setI_mem _ _).2 (List.mem_flatten.2 ⟨_, List.getElem_mem hi, List.getElem_mem hk⟩)
  simpa using hc.2 _ hm
end Go.Proofs.Ytpdkacfhnmfmaaa

/- Layer 23: the document's Tops and Hang. Condition: no more than a thousand edges, a million vertices an edge. -/
namespace Go.Proofs.Ytpdkacfhnmfmaaa
open Go.RowKit
attribute [local go_sem] more_cell more_frozen more_more more_setCell more_of_drew more_of_drewN lt_more le_more past_cell past_cell2 past_frozen past_frozen2 past_setCell past_setCell2 mid_cell mid_frozen mid_setCell
attribute [local go_sem ↓] Go.wp_at_zero Go.wp_at_succ

theorem topsM_le' (h : List (List Int)) (p : List Int) (v : Int) (m : Nat) : topsM h p v m ≤ m := topsM_le h p v m
def TpAt (w : World) (h : List (List Int)) (p : List Int) (v : Int) (n : Nat) (x7 x8 : Value) (wr : World) : Prop := ∃ i : Nat, i ≤ n ∧ x7 = .int .i64 (topsM h p v i : Nat) ∧ x8 = .int .i64 (i : Int) ∧ Grew w wr
set_option maxHeartbeats 2000000 in
set_option maxRecDepth 100000 in
theorem tops23_any (h : List (List Int)) (n : Nat) (hl : h.length = n) (hn : n ≤ 1000) (hel : ∀ e ∈ h, e.length ≤ 1000) (p : List Int) (hp : p.length = n) (v : Int) (A : Option Addr) (kA : Nat) (P : Option Addr) (kP : Nat) (w : World) (ra : GridI (PRow w) A h) (rp : Row w P (iV p)) :
    Gives Try.prog 54 #[.slice A n kA, .slice P n kP, .int .i64 v] w (.int .i64 (topsM h p v n : Nat)) := by
  have RA := Lib.hid ra
  have RP := Lib.hid rp
  have HL := Lib.hid hl
  have HP := Lib.hid hp
  have HEl := Lib.hid hel
  have HTl := Lib.hid (topsM_le h p v)
  have HTs := Lib.hid (topsM_succ h p v)
  have HT0 : Hid (topsM h p v 0 = 0) := Lib.hid rfl
  have HHas : Hid (∀ (l : List Int) (B : Option Addr) (c : Nat) (W : World), l.length ≤ 1000 → Row W B (iV l) → Gives Try.prog 49 #[.slice B l.length c, .int .i64 v] W (.bool (decide (v ∈ l)))) := Lib.hid fun l B c W hle hr => rhas21_any l v B c (by omega) W hr
  have HTop : Hid (∀ i, topB h p v i = (decide (v ∈ h.getD i []) && !(decide (0 ≤ p.getD i 0) && decide (v ∈ h.getD (p.getD i 0).toNat [])))) := Lib.hid fun i => rfl
  clear ra rp hl hp hel
  unfold Gives
  go_enter Try.func54, Try.ntmps54
  go_wp2
  go_loopw [7, 8] (fun x7 x8 wr => TpAt w h p v n x7 x8 wr) (fun _ x _ => n - (intOf x).toNat)
  case atStart => exact ⟨0, Nat.zero_le _, by rw [HT0.out]; rfl, rfl, Grew.refl w⟩
  case round =>
    obtain ⟨i, hi, rfl, rfl, hg⟩ := hrel
    have HG := Lib.hid hg
    clear hg
    by_cases hin : i < n
    · have e0 : decide ((i : Int) < (n : Int)) = true := decide_eq_true (by omega)
      have hii : (i : Int) < (n : Int) := by omega
      have hih : i < h.length := by rw [HL.out]; exact hin
      have hip : i < p.length := by rw [HP.out]; exact hin
      obtain ⟨b, o, B, cB, rfl, hb, hc, hre⟩ := gridI_at RA.out hih
      have ees : h.getD i [] = h[i] := by rw [List.getD_eq_getElem?_getD, List.getElem?_eq_getElem hih]; rfl
      have epi : p.getD i 0 = p[i] := by rw [List.getD_eq_getElem?_getD, List.getElem?_eq_getElem hip]; rfl
      obtain ⟨b2, o2, rfl, hb2, hc2⟩ := rowI_at RP.out hip
      have t0 := (HG.out.cell (a := ⟨b, o + i, none⟩) hb).trans hc
      have t1 := Nat.lt_of_lt_of_le hb HG.out.size
      have HHi := Lib.hid (HHas.out h[i] B cB wr (HEl.out _ (List.getElem_mem hih)) (hre.grew HG.out))
      have HRow2 : Hid (∀ W, Grew w W → b2 < W.heap.size ∧ W.cell? ⟨b2, o2 + i, none⟩ = some (.int .i64 p[i])) := Lib.hid fun W hW => ⟨Nat.lt_of_lt_of_le hb2 hW.size, (hW.cell (a := ⟨b2, o2 + i, none⟩) hb2).trans hc2⟩
      have HTi := Lib.hid (HTop.out i)
      rw [ees, epi] at HTi
      have HSi := Lib.hid (HTs.out i)
      have hti := HTl.out i
      have hti1 := HTl.out (i + 1)
      have hcs : ((topsM h p v i : Nat) : Int) ≤ 1000 := by omega
      obtain ⟨tp, htp⟩ : ∃ tp, p[i] = tp := ⟨_, rfl⟩
      rw [htp] at HRow2 HTi
      have HFar : Hid (0 ≤ tp → tp < n → ∃ D cD l, (∀ W, Grew w W → b < W.heap.size ∧ W.cell? ⟨b, o + tp.toNat, none⟩ = some (.slice D l cD) ∧ Gives Try.prog 49 #[.slice D l cD, .int .i64 v] W (.bool (decide (v ∈ h.getD tp.toNat []))))) := Lib.hid fun h0 h1 => by
        have hq : tp.toNat < h.length := by rw [HL.out]; omega
        obtain ⟨b3, o3, D, cD, e3, hb3, hc3, hr3⟩ := gridI_at RA.out hq
        injection e3 with e3
        injection e3 with e4 e5
        subst e4 e5
        have e6 : h.getD tp.toNat [] = h[tp.toNat] := by rw [List.getD_eq_getElem?_getD, List.getElem?_eq_getElem hq]; rfl
        rw [e6]
        exact ⟨D, cD, h[tp.toNat].length, fun W hW => ⟨Nat.lt_of_lt_of_le hb3 hW.size, (hW.cell (a := ⟨b, o + tp.toNat, none⟩) hb3).trans hc3, HHas.out _ D cD W (HEl.out _ (List.getElem_mem hq)) (hr3.grew hW)⟩⟩
      have HOut : Hid ((n : Int) ≤ tp → decide (v ∈ h.getD tp.toNat []) = false) := Lib.hid fun h1 => by
        rw [List.getD_eq_getElem?_getD, List.getElem?_eq_none (by rw [HL.out]; omega)]
        rfl
      clear ees epi htp hb hc hre hb2 hc2
      generalize h[i].length = li at *
      generalize topB h p v i = tb at *
      obtain ⟨c1, hc1⟩ : ∃ c1, topsM h p v (i + 1) = c1 := ⟨_, rfl⟩
      rw [hc1] at HSi hti1
      have HC1 := Lib.hid hc1
      clear hc1
      generalize topsM h p v i = c0 at *
      cases hvi : decide (v ∈ h[i]) with
      | false =>
        rw [hvi] at HHi HTi
        obtain rfl : tb = false := by rw [HTi.out]; rfl
        obtain rfl : c1 = c0 := by rw [HSi.out]; rfl
        go_wp2_with (go_at_call 49; (with_reducible refine HHi.out.grows.mono ?_); rintro e w2 ⟨rfl, hg2⟩; have HG2 := Lib.hid (HG.out.trans hg2); obtain ⟨q1, q2⟩ := HRow2.out _ HG2.out; clear hg2)
        exact ⟨⟨i + 1, by omega, (by rw [HC1.out] <;> first | rfl | go_num), by go_num, HG2.out⟩, by simp only [intOf]; omega⟩
      | true =>
        rw [hvi] at HHi HTi
        by_cases h0 : tp < 0
        · have f0 : decide (tp < 0) = true := decide_eq_true h0
          obtain rfl : tb = true := by rw [HTi.out, decide_eq_false (show ¬ 0 ≤ tp by omega)]; rfl
          obtain rfl : c1 = c0 + 1 := by rw [HSi.out]; rfl
          clear HFar HOut
          go_wp2_with (go_at_call 49; (with_reducible refine HHi.out.grows.mono ?_); rintro e w2 ⟨rfl, hg2⟩; have HG2 := Lib.hid (HG.out.trans hg2); obtain ⟨q1, q2⟩ := HRow2.out _ HG2.out; clear hg2)
          exact ⟨⟨i + 1, by omega, (by rw [HC1.out] <;> first | rfl | go_num), by go_num, HG2.out⟩, by simp only [intOf]; omega⟩
        · have f0 : decide (tp < 0) = false := decide_eq_false h0
          have h0' : 0 ≤ tp := by omega
          by_cases h1 : tp < n
          rotate_left
          · have h1' : (n : Int) ≤ tp := by omega
            have f1 : decide ((n : Int) ≤ tp) = true := decide_eq_true h1'
            obtain rfl : tb = true := by rw [HTi.out, HOut.out h1', Bool.and_false]; rfl
            obtain rfl : c1 = c0 + 1 := by rw [HSi.out]; rfl
            clear HFar HOut
            go_wp2_with (go_at_call 49; (with_reducible refine HHi.out.grows.mono ?_); rintro e w2 ⟨rfl, hg2⟩; have HG2 := Lib.hid (HG.out.trans hg2); obtain ⟨q1, q2⟩ := HRow2.out _ HG2.out; clear hg2)
            exact ⟨⟨i + 1, by omega, (by rw [HC1.out] <;> first | rfl | go_num), by go_num, HG2.out⟩, by simp only [intOf]; omega⟩
          · obtain ⟨D, cD, l, hF⟩ := HFar.out h0' h1
            have HF := Lib.hid hF
            obtain ⟨z, rfl⟩ : ∃ z : Nat, tp = (z : Int) := ⟨tp.toNat, by omega⟩
            rw [Int.toNat_natCast] at HF HTi
            have f1 : decide ((n : Int) ≤ (z : Int)) = false := decide_eq_false (by omega)
            rw [decide_eq_true h0'] at HTi
            clear hF HFar HOut h0
            cases hvz : decide (v ∈ h.getD z []) with
            | false =>
              rw [hvz] at HF HTi
              obtain rfl : tb = true := by rw [HTi.out]; rfl
              obtain rfl : c1 = c0 + 1 := by rw [HSi.out]; rfl
              go_wp2_with (first | (go_at_call 49; (with_reducible refine HHi.out.grows.mono ?_); rintro e w2 ⟨rfl, hg2⟩; have HG2 := Lib.hid (HG.out.trans hg2); obtain ⟨q1, q2⟩ := HRow2.out _ HG2.out; obtain ⟨q3, q4, q5⟩ := HF.out _ HG2.out; have HQ5 := Lib.hid q5; clear q5; clear hg2) | (go_at_call 49; (with_reducible refine HQ5.out.grows.mono ?_); rintro e w3 ⟨rfl, hg3⟩; have HG3 := Lib.hid (HG2.out.trans hg3); clear hg3))
              exact ⟨⟨i + 1, by omega, (by rw [HC1.out] <;> first | rfl | go_num), by go_num, HG3.out⟩, by simp only [intOf]; omega⟩
            | true =>
              rw [hvz] at HF HTi
              obtain rfl : tb = false := by rw [HTi.out]; rfl
              obtain rfl : c1 = c0 := by rw [HSi.out]; rfl
              go_wp2_with (first | (go_at_call 49; (with_reducible refine HHi.out.grows.mono ?_); rintro e w2 ⟨rfl, hg2⟩; have HG2 := Lib.hid (HG.out.trans hg2); obtain ⟨q1, q2⟩ := HRow2.out _ HG2.out; obtain ⟨q3, q4, q5⟩ := HF.out _ HG2.out; have HQ5 := Lib.hid q5; clear q5; clear hg2) | (go_at_call 49; (with_reducible refine HQ5.out.grows.mono ?_); rintro e w3 ⟨rfl, hg3⟩; have HG3 := Lib.hid (HG2.out.trans hg3); clear hg3))
              exact ⟨⟨i + 1, by omega, (by rw [HC1.out] <;> first | rfl | go_num), by go_num, HG3.out⟩, by simp only [intOf]; omega⟩
    · obtain rfl : i = n := by omega
      have e0 : decide ((i : Int) < (i : Int)) = false := decide_eq_false (by omega)
      go_wp2
      go_ret
      exact ⟨rfl, HG.out⟩
def HnA (w : World) (n : Nat) (x : Value) (wr : World) : Prop := ∃ i : Nat, i ≤ n ∧ x = .int .i64 (i : Int) ∧ Grew w wr
set_option maxHeartbeats 2000000 in
set_option maxRecDepth 100000 in
theorem hang23_yes (h : List (List Int)) (n : Nat) (hl : h.length = n) (hn : n ≤ 1000) (hel : ∀ e ∈ h, e.length ≤ 1000) (p : List Int) (hp : p.length = n) (hc : checkB h p = true) (A : Option Addr) (kA : Nat) (P : Option Addr) (kP : Nat) (w : World) (ra : GridI (PRow w) A h) (rp : Row w P (iV p)) :
    Gives Try.prog 30 #[.slice A n kA, .slice P n kP] w (.bool true) := by
  obtain ⟨_, htr, htp⟩ := check_tops hc
  have RA := Lib.hid ra
  have HL := Lib.hid hl
  have HEl := Lib.hid hel
  have HTr : Hid (∀ W, Grew w W → Gives Try.prog 15 #[.slice P n kP] W (.bool true)) := Lib.hid fun W hW => by
    have := rtree22_any p (by rw [hp]; omega) P kP W (rp.grew hW)
    rw [hp, htr] at this
    exact this
  have HTp : Hid (∀ (i : Nat) (hi : i < h.length) (k : Nat) (hk : k < h[i].length) (W : World), Grew w W → Gives Try.prog 54 #[.slice A n kA, .slice P n kP, .int .i64 h[i][k]] W (.int .i64 1)) := Lib.hid fun i hi k hk W hW => by
    have h1 := tops23_any h n hl hn hel p hp h[i][k] A kA P kP W (ra.grew hW) (rp.grew hW)
    have h2 := htp i hi k hk
    rw [hp] at h2
    rw [h2] at h1
    exact h1
  clear ra rp hl hp hel hc htr htp
  have e0 : ((n : Int) != (n : Int)) = false := by simp
  unfold Gives
  go_enter Try.func30, Try.ntmps30
  go_wp2_with (go_at_call 15; (with_reducible refine (HTr.out _ (Grew.refl w)).grows.mono ?_); rintro e w1 ⟨rfl, hg1⟩; have HG1 := Lib.hid hg1; clear hg1)
  go_loopw [5] (fun x wr => HnA w n x wr) (fun x _ => n - (intOf x).toNat)
  case atStart => exact ⟨0, Nat.zero_le _, rfl, HG1.out⟩
  case round =>
    obtain ⟨i, hi, rfl, hg⟩ := hrel
    have HG := Lib.hid hg
    clear hg HG1
    by_cases hin : i < n
    · have e1 : decide ((i : Int) < (n : Int)) = true := decide_eq_true (by omega)
      have hii : (i : Int) < (n : Int) := by omega
      have hih : i < h.length := by rw [HL.out]; exact hin
      obtain ⟨b, o, B, cB, rfl, hb, hc, hre⟩ := gridI_at RA.out hih
      have HRd : Hid (∀ W, Grew w W → b < W.heap.size ∧ W.cell? ⟨b, o + i, none⟩ = some (.slice B h[i].length cB)) := Lib.hid fun W hW => ⟨Nat.lt_of_lt_of_le hb hW.size, (hW.cell (a := ⟨b, o + i, none⟩) hb).trans hc⟩
      have HRe := Lib.hid hre
      have HTi := Lib.hid (HTp.out i hih)
      have hll := HEl.out _ (List.getElem_mem hih)
      obtain ⟨li, hli⟩ : ∃ li, h[i] = li := ⟨_, rfl⟩
      have HTi2 : Hid (∀ (k : Nat) (hk : k < li.length) (W : World), Grew w W → Gives Try.prog 54 #[.slice (some ⟨b, o, none⟩) n kA, .slice P n kP, .int .i64 li[k]] W (.int .i64 1)) := Lib.hid (by
        subst hli
        exact HTi.out)
      rw [hli] at HRd HRe hll
      clear hli hb hc hre HTi
      go_wp2
      go_loopw [6] (fun x wx => HnA w li.length x wx) (fun x _ => li.length - (intOf x).toNat)
      case atStart => exact ⟨0, Nat.zero_le _, rfl, HG.out⟩
      case round =>
        obtain ⟨k, hk, rfl, hg2⟩ := hrel
        have HG2 := Lib.hid hg2
        obtain ⟨t1, t2⟩ := HRd.out _ hg2
        clear hg2
        by_cases hkl : k < li.length
        · have e2 : decide ((k : Int) < (li.length : Int)) = true := decide_eq_true (by omega)
          have hkk : (k : Int) < (li.length : Int) := by omega
          obtain ⟨b3, o3, rfl, hb3, hc3⟩ := rowI_at HRe.out hkl
          have t3 := (HG2.out.cell (a := ⟨b3, o3 + k, none⟩) hb3).trans hc3
          have t4 := Nat.lt_of_lt_of_le hb3 HG2.out.size
          have HTk := Lib.hid (HTi2.out k hkl _ HG2.out)
          clear hb3 hc3
          generalize li[k] = v at *
          go_wp2_with (go_at_call 54; (with_reducible refine HTk.out.grows.mono ?_); rintro e w6 ⟨rfl, hg6⟩; have HG6 := Lib.hid (HG2.out.trans hg6); clear hg6)
          exact ⟨⟨k + 1, by omega, by go_num, HG6.out⟩, by simp only [intOf]; omega⟩
        · obtain rfl : k = li.length := by omega
          have e2 : decide ((li.length : Int) < (li.length : Int)) = false := decide_eq_false (by omega)
          go_wp2
          exact ⟨⟨i + 1, by omega, by go_num, HG2.out⟩, by simp only [intOf]; omega⟩
    · obtain rfl : i = n := by omega
      have e1 : decide ((i : Int) < (i : Int)) = false := decide_eq_false (by omega)
      go_wp2
      go_ret
      exact ⟨rfl, HG.out⟩
end Go.Proofs.Ytpdkacfhnmfmaaa

/- Layer 23: nodes by their depths: the library's stable sort of fewer than twenty numbers, with the program's closure. -/
namespace Go.Proofs.Ytpdkacfhnmfmaaa
open Go.RowKit Go.Shelf Go.Sort
attribute [local go_sem] more_cell more_frozen more_more more_setCell more_of_drew more_of_drewN lt_more le_more past_cell past_cell2 past_frozen past_frozen2 past_setCell past_setCell2 mid_cell mid_frozen mid_setCell
attribute [local go_sem ↓] Go.wp_at_zero Go.wp_at_succ

/-- A node as the library's sort sees it. -/
def encF (n : Nat) (x : Fin n) : Value := .int .i64 (x.val : Int)
/-- How two nodes compare. -/
def cfD (n : Nat) (ds : List Int) (x y : Fin n) : Int := wrap64 (ds.getD x.val 0 - ds.getD y.val 0)
theorem down1_any (g : Nat) (A2 : Option Addr) (k2 : Nat) (n : Nat) (ds : List Int) (x y : Nat) (hx : x < n) (hy : y < n) (w : World) (hg : w.cell? ⟨g, 0, none⟩ = some (.slice A2 n k2))
    (hr : ∀ j, j < n → ∃ b o, A2 = some ⟨b, o, none⟩ ∧ w.cell? ⟨b, o + j, none⟩ = some (.int .i64 (ds.getD j 0))) :
    Calls Try.prog 44 #[.int .i64 (x : Int), .int .i64 (y : Int), .pointer (some ⟨g, 0, none⟩)] w fun e w' => e = .returned (.int .i64 (wrap64 (ds.getD x 0 - ds.getD y 0))) ∧ ∃ q, w' = w.drewN q := by
  obtain ⟨b, o, rfl, hcx⟩ := hr x hx
  obtain ⟨b', o', e, hcy⟩ := hr y hy
  injection e with e
  injection e with e1 e2
  subst e1 e2
  have hxn : (x : Int) < (n : Int) := by omega
  have hyn : (y : Int) < (n : Int) := by omega
  clear hr hx hy
  generalize ds.getD x 0 = dx at *
  generalize ds.getD y 0 = dy at *
  go_enter Try.func44, Try.ntmps44
  go_wp2
  go_quiet (fail)
  go_wp2
  go_ret
  exact ⟨rfl, _, rfl⟩
theorem down1_reads (n : Nat) [Inhabited (Fin n)] (g : Nat) (A2 : Option Addr) (k2 : Nat) (ds : List Int) (blk : Nat) (w : World) (hgl : g < w.heap.size) (hgb : g ≠ blk) (hg : w.cell? ⟨g, 0, none⟩ = some (.slice A2 n k2))
    (hr : ∀ j, j < n → ∃ b o, A2 = some ⟨b, o, none⟩ ∧ b < w.heap.size ∧ b ≠ blk ∧ w.cell? ⟨b, o + j, none⟩ = some (.int .i64 (ds.getD j 0))) :
    CmpReads Try.prog 44 #[.pointer (some ⟨g, 0, none⟩)] (encF n) (cfD n ds) blk 0 n w := by
  intro q os dk hdk x y
  have hcell : ∀ a : Addr, a.block < w.heap.size → a.block ≠ blk → (sortWorld (encF n) w blk 0 q dk os).cell? a = w.cell? a := fun a h1 h2 => by
    unfold sortWorld
    rw [cell?_grow _ _ _ (by simpa using h1), cell?_putRow_other _ _ _ _ _ _ (Or.inl h2)]
    simp
  refine down1_any g A2 k2 n ds x.val y.val x.isLt y.isLt _ ((hcell _ hgl hgb).trans hg) fun j hj => ?_
  obtain ⟨b, o, h1, h2, h3, h4⟩ := hr j hj
  exact ⟨b, o, h1, (hcell _ h2 h3).trans h4⟩
theorem stable_any (n : Nat) [Inhabited (Fin n)] (hm : n < 20) (g : Nat) (ds : List Int) (blk : Nat) (cap : Nat) (d : Array (Fin n)) (hd : d.size = n) (w : World)
    (hc : CmpReads Try.prog 44 #[.pointer (some ⟨g, 0, none⟩)] (encF n) (cfD n ds) blk 0 n w) (hH : Holds (encF n) w blk 0 d) :
    Calls Try.prog 60 #[.slice (some ⟨blk, 0, none⟩) n cap, .int .i64 (n : Int), .func (.func 44) #[] #[.pointer (some ⟨g, 0, none⟩)]] w fun e w' =>
      e = .returned (.tuple #[]) ∧ ∃ q, w' = (putRow (encF n) w blk 0 (Sort.insertionSort (ltOf (cfD n ds)) d 0 n)).drewN q := by
  have eg : ∀ args w, (callFunc 44 args).run Try.prog w = .ok (.enter 44 args) w := enters_of Try.func44 (by kernel_rfl) rfl
  have hc' : CmpReads Try.prog 44 #[.pointer (some ⟨g, 0, none⟩)] (encF n) (cfD n ds) blk 0 d.size w := by
    rw [hd]
    exact hc
  have hcon := Any.insertionSortCmpFunc_one Try.laysIns (encF n) (fun _ => rfl) (cfD n ds) 44 #[.pointer (some ⟨g, 0, none⟩)] blk 0 cap 0 n d w eg hc' hH (by omega) (by omega) (by omega)
  change Calls Try.prog 67 _ _ _ at hcon
  rw [hd, show ((0 : Nat) : Int) = 0 from rfl] at hcon
  clear hH hc hc'
  generalize Sort.insertionSort (ltOf (cfD n ds)) d 0 n = r at hcon ⊢
  generalize encF n = en at *
  have HC := Lib.hid hcon
  clear hcon
  have hlt : (n : Int) < 20 := by omega
  have hlt2 : decide ((20 : Int) ≤ (n : Int)) = false := decide_eq_false (by omega)
  have hlt3 : decide ((20 : Int) < (n : Int)) = false := decide_eq_false (by omega)
  have hlt4 : ¬ (20 : Int) ≤ (n : Int) := by omega
  have hlt5 : ¬ (20 : Int) < (n : Int) := by omega
  go_enter Try.func60, Try.ntmps60
  go_wp2
  go_loopw [7, 8] (fun y x wr => y = .int .i64 0 ∧ x = .int .i64 20 ∧ wr = w) (fun _ _ _ => 0)
  case atStart => exact ⟨rfl, rfl, rfl⟩
  case round =>
    obtain ⟨rfl, rfl, rfl⟩ := hrel
    go_wp2_with (go_at_call 67; (with_reducible refine HC.out.mono ?_); rintro e w6 ⟨rfl, q, rfl⟩)
    go_loopw [6] (fun x wr2 => x = .int .i64 20 ∧ wr2 = (putRow en wr blk 0 r).drewN q) (fun _ _ => 0)
    case atStart => exact ⟨rfl, rfl⟩
    case round =>
      obtain ⟨rfl, rfl⟩ := hrel
      go_wp2
      go_end0
      exact ⟨rfl, q, rfl⟩
theorem sortStable_any (n : Nat) [Inhabited (Fin n)] (hm : n < 20) (g : Nat) (ds : List Int) (blk : Nat) (cap : Nat) (d : Array (Fin n)) (hd : d.size = n) (w : World)
    (hc : CmpReads Try.prog 44 #[.pointer (some ⟨g, 0, none⟩)] (encF n) (cfD n ds) blk 0 n w) (hH : Holds (encF n) w blk 0 d) :
    Calls Try.prog 43 #[.slice (some ⟨blk, 0, none⟩) n cap, .func (.func 44) #[] #[.pointer (some ⟨g, 0, none⟩)]] w fun e w' =>
      e = .returned (.tuple #[]) ∧ ∃ q, w' = (putRow (encF n) w blk 0 (Sort.insertionSort (ltOf (cfD n ds)) d 0 n)).drewN q := by
  have HC := Lib.hid (stable_any n hm g ds blk cap d hd w hc hH)
  clear hc hH
  generalize Sort.insertionSort (ltOf (cfD n ds)) d 0 n = r at HC ⊢
  generalize encF n = en at *
  go_enter Try.func43, Try.ntmps43
  go_wp2_with (go_at_call 60; (with_reducible refine HC.out.mono ?_); rintro e w6 ⟨rfl, q, rfl⟩)
  go_end0
  exact ⟨rfl, q, rfl⟩
end Go.Proofs.Ytpdkacfhnmfmaaa

/- Layer 23: the way up to the first node whose depth is known. Condition: no more than a thousand nodes. -/
namespace Go.Proofs.Ytpdkacfhnmfmaaa
open Go.RowKit
attribute [local go_sem] more_cell more_frozen more_more more_setCell more_of_drew more_of_drewN lt_more le_more past_cell past_cell2 past_frozen past_frozen2 past_setCell past_setCell2 mid_cell mid_frozen mid_setCell
attribute [local go_sem ↓] Go.wp_at_zero Go.wp_at_succ

/-- Is it a node whose depth is not known yet? -/
def Unk (p os : List Int) (i : Int) : Prop := 0 ≤ i ∧ i < p.length ∧ os.getD i.toNat 0 < 0
instance (p os : List Int) (i : Int) : Decidable (Unk p os i) := by unfold Unk; infer_instance
def wayD (p os : List Int) : Nat → Int → List Nat
  | 0, _ => []
  | f + 1, i => if Unk p os i then i.toNat :: wayD p os f (p.getD i.toNat 0) else []
def endD (p os : List Int) : Nat → Int → Int
  | 0, i => i
  | f + 1, i => if Unk p os i then endD p os f (p.getD i.toNat 0) else i
theorem endD_stop {p os : List Int} {i : Int} (h : ¬ Unk p os i) (f : Nat) : endD p os f i = i := by
  cases f with
  | zero => rfl
  | succ f => unfold endD; rw [if_neg h]
theorem wayD_stop {p os : List Int} {i : Int} (h : ¬ Unk p os i) (f : Nat) : wayD p os f i = [] := by
  cases f with
  | zero => rfl
  | succ f => unfold wayD; rw [if_neg h]
theorem wayD_lt (p os : List Int) : ∀ (f : Nat) (i : Int), ∀ z ∈ wayD p os f i, z < p.length := by
  intro f
  induction f with
  | zero => intro i z hz; cases hz
  | succ f ih =>
    intro i z hz
    unfold wayD at hz
    split at hz
    · rename_i h
      rcases List.mem_cons.1 hz with rfl | hz
      · have := h.1; have := h.2.1; omega
      · exact ih _ _ hz
    · cases hz
theorem wayD_len (p os : List Int) : ∀ (f : Nat) (i : Int), (wayD p os f i).length ≤ f := by
  intro f
  induction f with
  | zero => intro i; exact Nat.le_refl _
  | succ f ih =>
    intro i
    unfold wayD
    split
    · rw [List.length_cons]; have := ih (p.getD i.toNat 0); omega
    · simp
/-- What is known so far, where it lies. -/
structure OsU (u : World) (g0 : Nat) (os : List Int) (A0 : Option Addr) (k0 : Nat) : Prop where
  lt : g0 < u.heap.size
  cell : u.cell? ⟨g0, 0, none⟩ = some (.slice A0 os.length k0)
  row : Row u A0 (iV os)
theorem dep1_no (u : World) (g0 h : Nat) (os : List Int) (A0 : Option Addr) (k0 : Nat) (ho : OsU u g0 os A0 k0) (l : List Nat) (z : Nat) (hz : z < os.length) (hk : 0 ≤ os[z]) (w : World) (hs : WaS u h l w) :
    Calls Try.prog 58 #[.int .i64 z, .pointer (some ⟨g0, 0, none⟩), .pointer (some ⟨h, 0, none⟩)] w fun e w' => e = .returned (.bool false) ∧ WaS u h l w' := by
  have HS := Lib.hid hs
  obtain ⟨b2, o2, rfl, hb2, hc2⟩ := rowI_at ho.row hz
  have t0 := (hs.grew.cell (a := ⟨g0, 0, none⟩) ho.lt).trans ho.cell
  have t1 := (hs.grew.cell (a := ⟨b2, o2 + z, none⟩) hb2).trans hc2
  have t2 := Nat.lt_of_lt_of_le ho.lt hs.grew.size
  have t3 := Nat.lt_of_lt_of_le hb2 hs.grew.size
  generalize os[z] = y at *
  have e1 : decide ((0 : Int) ≤ y) = true := decide_eq_true hk
  clear hs ho hb2 hc2
  go_enter Try.func58, Try.ntmps58
  go_wp2
  go_ret
  exact ⟨rfl, HS.out⟩
theorem dep1_yes (u : World) (g0 h : Nat) (os : List Int) (A0 : Option Addr) (k0 : Nat) (ho : OsU u g0 os A0 k0) (l : List Nat) (hl : l.length ≤ 1000) (z : Nat) (hz : z < os.length) (hk : os[z] < 0) (w : World) (hs : WaS u h l w) :
    Calls Try.prog 58 #[.int .i64 z, .pointer (some ⟨g0, 0, none⟩), .pointer (some ⟨h, 0, none⟩)] w fun e w' => e = .returned (.bool true) ∧ WaS u h (l ++ [z]) w' := by
  obtain ⟨b2, o2, rfl, hb2, hc2⟩ := rowI_at ho.row hz
  have t0 := (hs.grew.cell (a := ⟨g0, 0, none⟩) ho.lt).trans ho.cell
  have t1 := (hs.grew.cell (a := ⟨b2, o2 + z, none⟩) hb2).trans hc2
  have t2 := Nat.lt_of_lt_of_le ho.lt hs.grew.size
  have t3 := Nat.lt_of_lt_of_le hb2 hs.grew.size
  generalize os[z] = y at *
  have e1 : decide ((0 : Int) ≤ y) = false := decide_eq_false (by omega)
  have e2 : ¬ (0 : Int) ≤ y := by omega
  have hg := hs.grew
  have hlow := hs.low
  obtain ⟨A, c, hb, ho'⟩ := hs.own
  have HG := Lib.hid hg
  have HB := Lib.hid hb
  have HO := Lib.hid ho'
  have HLow := Lib.hid hlow
  have t4 := hb.cell 0
  have tl := hb.lt
  simp only [List.getElem?_toArray, List.getElem?_cons_zero] at t4
  clear hg hb ho' hlow hs ho hb2 hc2
  go_enter Try.func58, Try.ntmps58
  go_upto_region 4 with (at_builtin; refine wpList_appB rfl _ _ 25 3 1 rfl (h + 1) (.int .i64 0) 8 Try.underlying25 infoI rfl (by decide) (by decide) _ l.length (nL l) rfl (own_alloc HO.out _) _ 1 1 [.int .i64 z] rfl rfl (row_one _ _ _ _ rfl) (by simp [Value.oneCell']) (by omega) (by rw [World.size_alloc]; omega) ?_; intro A9 c9 w9 ho9 hg9; have HO9 := Lib.hid ho9; have HG9 := Lib.hid ((HG.out.alloc (.cells #[.int .i64 z] 3)).grown hg9 (fun i hi => by have := own_base HO.out i hi; have := HLow.out; omega)); have HB9 := Lib.hid ((HB.out.alloc (.cells #[.int .i64 z] 3)).other (own_alloc HO.out (.cells #[.int .i64 z] 3)) neSI hg9); clear ho9 hg9; have s0 := HB9.out.cell 0; have s1 := HB9.out.thaw 0; have s2 := HB9.out.lt; simp only [List.getElem?_toArray, List.getElem?_cons_zero] at s0)
  have HF : Hid (WaS u h (l ++ [z]) (w9.setCell ⟨h, 0, none⟩ (.slice A9 (l.length + 1) c9))) := Lib.hid ⟨HG9.out.setCell (a := ⟨h, 0, none⟩) HLow.out _, HLow.out, A9, c9, by
    rw [List.length_append]
    exact HB9.out.set 0 _, by
    rw [List.length_append, ← nL_snoc]
    exact own_aside2 HO9.out (fun q hq => by have := own_base HO9.out q hq; show q ≠ h; omega) _⟩
  go_wp2
  go_ret
  exact ⟨rfl, HF.out⟩
def ClDAt (u : World) (h : Nat) (p os : List Int) (K : Nat) (i0 : Int) (x1 : Value) (wr : World) : Prop :=
  ∃ (f : Nat) (i : Int) (l : List Nat), x1 = .int .i64 i ∧ f + l.length = K ∧ WaS u h l wr ∧ wayD p os K i0 = l ++ wayD p os f i ∧ endD p os K i0 = endD p os f i
theorem climbdep_any (u : World) (g0 h : Nat) (p os : List Int) (hpo : os.length = p.length) (A0 : Option Addr) (k0 : Nat) (ho : OsU u g0 os A0 k0) (A2 : Option Addr) (k2 : Nat) (rp : Row u A2 (iV p)) (K : Nat) (hK : K ≤ 1000) (i0 : Int) (hend : ¬ Unk p os (endD p os K i0)) (w : World) (hs : WaS u h [] w) :
    Calls Try.prog 36 #[.slice A2 p.length k2, .int .i64 i0, .func (.func 58) #[] #[.pointer (some ⟨g0, 0, none⟩), .pointer (some ⟨h, 0, none⟩)]] w fun e w' => e = .returned (.int .i64 (endD p os K i0)) ∧ WaS u h (wayD p os K i0) w' := by
  have RP := Lib.hid rp
  have HOs := Lib.hid ho
  have HPO := Lib.hid hpo
  obtain ⟨fin, hfin⟩ : ∃ fin, endD p os K i0 = fin := ⟨_, rfl⟩
  obtain ⟨fw, hfw⟩ : ∃ fw, wayD p os K i0 = fw := ⟨_, rfl⟩
  have H0 : Hid (ClDAt u h p os K i0 (.int .i64 i0) w) := Lib.hid ⟨K, i0, [], rfl, by simp, hs, by simp, rfl⟩
  have HEnd := Lib.hid hend
  have HFin := Lib.hid hfin
  have HFw := Lib.hid hfw
  rw [hfin, hfw]
  clear rp hs hend hfin hfw ho hpo
  generalize hii : i0 = ii at H0 HEnd HFin HFw ⊢
  clear hii
  go_enter Try.func36, Try.ntmps36
  go_wp2
  go_loopw [1] (fun x wr => ClDAt u h p os K ii x wr) (fun _ wr => K - lenAt wr h)
  case atStart => exact H0.out
  case round =>
    obtain ⟨f, i, l, rfl, hf, hs, hw1, he1⟩ := hrel
    have HS := Lib.hid hs
    have HW := Lib.hid hw1
    have HE := Lib.hid he1
    clear hs hw1 he1 H0
    by_cases h0 : 0 ≤ i
    · obtain ⟨z, rfl⟩ : ∃ z : Nat, i = (z : Int) := ⟨i.toNat, by omega⟩
      have e0 : decide ((0 : Int) ≤ (z : Int)) = true := decide_eq_true h0
      by_cases h1 : z < p.length
      · have e1 : decide ((z : Int) < (p.length : Int)) = true := decide_eq_true (by omega)
        have hzo : z < os.length := by rw [HPO.out]; exact h1
        have hgd : os.getD ((z : Int)).toNat 0 = os[z] := by rw [Int.toNat_natCast, List.getD_eq_getElem?_getD, List.getElem?_eq_getElem hzo]; rfl
        by_cases hk : os[z] < 0
        · have hun : Unk p os (z : Int) := ⟨h0, by omega, by rw [hgd]; exact hk⟩
          cases f with
          | zero => exact absurd (by rw [HE.out]; exact hun) HEnd.out
          | succ f =>
            obtain ⟨b2, o2, rfl, hb2, hc2⟩ := rowI_at (RP.out) h1
            have HC := Lib.hid (fun W (hW : Grew u W) => And.intro (Nat.lt_of_lt_of_le hb2 hW.size) ((hW.cell (a := ⟨b2, o2 + z, none⟩) hb2).trans hc2))
            have HW2 : Hid (wayD p os K ii = (l ++ [z]) ++ wayD p os f p[z]) := Lib.hid (by
              rw [HW.out, wayD, if_pos hun, Int.toNat_natCast, List.getD_eq_getElem?_getD, List.getElem?_eq_getElem h1, List.append_assoc]
              rfl)
            have HE2 : Hid (endD p os K ii = endD p os f p[z]) := Lib.hid (by
              rw [HE.out, endD, if_pos hun, Int.toNat_natCast, List.getD_eq_getElem?_getD, List.getElem?_eq_getElem h1]
              rfl)
            have hlen := HS.out.len
            have HLen := Lib.hid hlen
            have HCl := Lib.hid (dep1_yes u g0 h os A0 k0 HOs.out l (by omega) z hzo hk _ HS.out)
            generalize p[z] = y at *
            clear HW HE HEnd HFin HFw hb2 hc2 hlen hk hgd hun
            go_wp2_with (go_at_call 58; (with_reducible refine HCl.out.mono ?_); rintro e w6 ⟨rfl, hs6⟩; have HS6 := Lib.hid hs6; obtain ⟨hb2, hc2⟩ := HC.out _ hs6.grew; clear hs6)
            exact ⟨⟨f, y, l ++ [z], rfl, by rw [List.length_append]; simp; omega, HS6.out, HW2.out, HE2.out⟩, by rw [HS6.out.len, HLen.out, List.length_append]; simp; omega⟩
        · have hun : ¬ Unk p os (z : Int) := fun x => hk (hgd ▸ x.2.2)
          have HCl := Lib.hid (dep1_no u g0 h os A0 k0 HOs.out l z hzo (by omega) _ HS.out)
          obtain rfl : fin = (z : Int) := by rw [← HFin.out, HE.out, endD_stop hun]
          obtain rfl : fw = l := by rw [← HFw.out, HW.out, wayD_stop hun, List.append_nil]
          clear HFin HFw HE HW HEnd hk hgd hun
          go_wp2_with (go_at_call 58; (with_reducible refine HCl.out.mono ?_); rintro e w6 ⟨rfl, hs6⟩; have HS6 := Lib.hid hs6; clear hs6)
          go_ret
          exact ⟨rfl, HS6.out⟩
      · have e1 : decide ((z : Int) < (p.length : Int)) = false := decide_eq_false (by omega)
        have h1' : (p.length : Int) ≤ (z : Int) := by omega
        have hun : ¬ Unk p os (z : Int) := fun x => h1 (by have := x.2.1; omega)
        obtain rfl : fin = (z : Int) := by rw [← HFin.out, HE.out, endD_stop hun]
        obtain rfl : fw = l := by rw [← HFw.out, HW.out, wayD_stop hun, List.append_nil]
        clear h1 HFin HFw HE HW HEnd hun
        go_wp2
        go_ret
        exact ⟨rfl, HS.out⟩
    · have e0 : decide ((0 : Int) ≤ i) = false := decide_eq_false h0
      have h0' : i < 0 := by omega
      have hun : ¬ Unk p os i := fun x => h0 x.1
      obtain rfl : fin = i := by rw [← HFin.out, HE.out, endD_stop hun]
      obtain rfl : fw = l := by rw [← HFw.out, HW.out, wayD_stop hun, List.append_nil]
      clear h0 HFin HFw HE HW HEnd hun
      go_wp2
      go_ret
      exact ⟨rfl, HS.out⟩
end Go.Proofs.Ytpdkacfhnmfmaaa

/- Layer 23: slices.Backward over a row of nodes. Condition: no more than a thousand nodes. -/
namespace Go.Proofs.Ytpdkacfhnmfmaaa
open Go.RowKit Go.Shelf Go.Proofs
attribute [local go_sem] Oper.semAt_some

/-- What slices.Backward hands on, of nodes below B. -/
abbrev BX (B : Nat) := { x : Nat × Nat // x.2 < B }
def encB (B : Nat) (x : BX B) : Array Value := #[.int .i64 (x.1.1 : Int), .int .i64 (x.1.2 : Int)]
def xsR (l : List Nat) : List (Nat × Nat) := (List.range l.length).reverse.map fun i => (i, l.getD i 0)
theorem xsR_mem {l : List Nat} {B : Nat} (hl : ∀ z ∈ l, z < B) : ∀ x ∈ xsR l, x.2 < B := by
  intro x hx
  simp only [xsR, List.mem_map, List.mem_reverse, List.mem_range] at hx
  obtain ⟨i, hi, rfl⟩ := hx
  show l.getD i 0 < B
  rw [List.getD_eq_getElem?_getD, List.getElem?_eq_getElem hi]
  exact hl _ (List.getElem_mem hi)
def xsB (B : Nat) (l : List Nat) (hl : ∀ z ∈ l, z < B) : List (BX B) := (xsR l).pmap (fun x h => (⟨x, h⟩ : BX B)) (xsR_mem hl)
theorem xsR_len (l : List Nat) : (xsR l).length = l.length := by simp [xsR]
theorem xsB_len (B : Nat) (l : List Nat) (hl : ∀ z ∈ l, z < B) : (xsB B l hl).length = l.length := by simp [xsB, xsR_len]
theorem xsB_val (B : Nat) (l : List Nat) (hl : ∀ z ∈ l, z < B) : (xsB B l hl).map Subtype.val = xsR l := by
  unfold xsB
  rw [List.map_pmap]
  simp
theorem xsB_step (B : Nat) (l : List Nat) (hl : ∀ z ∈ l, z < B) {j k : Nat} (h : j < l.length) (hk : k = l.length - 1 - j) (hB : l.getD k 0 < B) : (xsB B l hl).take j ++ [⟨(k, l.getD k 0), hB⟩] = (xsB B l hl).take (j + 1) := by
  have hj : j < (xsB B l hl).length := by rw [xsB_len]; exact h
  rw [List.take_succ_eq_append_getElem hj]
  have : (xsB B l hl)[j] = ⟨(k, l.getD k 0), hB⟩ := by
    apply Subtype.ext
    have hv := congrArg (fun L : List (Nat × Nat) => L[j]?) (xsB_val B l hl)
    have hr : (xsR l)[j]? = some (k, l.getD k 0) := by
      subst hk
      rw [List.getElem?_eq_getElem (by rw [xsR_len]; exact h)]
      simp [xsR]
    simp only [List.getElem?_map, List.getElem?_eq_getElem hj, Option.map_some] at hv
    rw [hr] at hv
    exact Option.some.inj hv
  rw [this]
/-- The row and the box of the slice that slices.Backward goes through. -/
structure FrB (A : Option Addr) (Bs : Nat) (l : List Nat) (c : Nat) (W : World) : Prop where
  box : Blok W Bs 25 #[.slice A l.length c]
  row : ∀ j, j < l.length → ∃ b cur, A = some ⟨b, 0, none⟩ ∧ Blok W b 3 cur ∧ cur[j]? = some (.int .i64 (l.getD j 0 : Nat))
def KpB (A : Option Addr) (Bs : Nat) (l : List Nat) (c : Nat) (W W' : World) : Prop := FrB A Bs l c W → FrB A Bs l c W'
theorem FrB.grew {A : Option Addr} {Bs : Nat} {l : List Nat} {c : Nat} {W W' : World} (h : FrB A Bs l c W) (k : Grew W W') : FrB A Bs l c W' :=
  ⟨h.box.grew k, fun j hj => by obtain ⟨b, cur, h1, h2, h3⟩ := h.row j hj; exact ⟨b, cur, h1, h2.grew k, h3⟩⟩
theorem Blok.put {W : World} {g : Nat} {t : TypeId} {cs : Array Value} (h : Blok W g t cs) {l : Nat} {o : Obj} (hl : W.heap[l]? = some o) (ho : o.isCells = false) (o' : Obj) : Blok (W.putObj l o') g t cs := by
  have hne : l ≠ g := fun e => by
    subst e
    unfold Blok at h
    rw [h] at hl
    injection hl with hl
    subst hl
    exact absurd ho (by simp [Obj.isCells])
  unfold Blok at h ⊢
  simp [World.putObj, hne, h]
theorem FrB.put {A : Option Addr} {Bs : Nat} {l : List Nat} {c : Nat} {W : World} (h : FrB A Bs l c W) {k : Nat} {o : Obj} (hl : W.heap[k]? = some o) (ho : o.isCells = false) (o' : Obj) : FrB A Bs l c (W.putObj k o') :=
  ⟨h.box.put hl ho o', fun j hj => by obtain ⟨b, cur, h1, h2, h3⟩ := h.row j hj; exact ⟨b, cur, h1, h2.put hl ho o', h3⟩⟩
theorem back_any (A : Option Addr) (n c : Nat) (w : World) :
    Calls Try.prog 59 #[.slice A n c] w fun e w' => e = .returned (.func (.func 66) #[] #[.pointer (some ⟨w.heap.size, 0, none⟩)]) ∧ w' = w.alloc (.cells #[.slice A n c] 25) := by
  go_enter Try.func59, Try.ntmps59
  go_wp2
  go_ret
  exact ⟨rfl, rfl⟩
theorem back_in (n : Nat) (hn : 1 ≤ n) (l0 Bs : Nat) (A : Option Addr) (c : Nat) (B : Nat) (l : List Nat) (hB : ∀ z ∈ l, z < B) (hl : l.length ≤ 1000) (J Jx : List (BX B) → World → Prop)
    (hY : ∀ pre x W, J pre W → pre.length < l.length → YieldAt Fence.wide (n - 1) Try.prog l0 (encB B x) W fun e W' =>
      (e = .returned (.bool true) ∧ J (pre ++ [x]) W' ∧ KpB A Bs l c W W') ∨ (e = .returned (.bool false) ∧ Jx (pre ++ [x]) W'))
    (W : World) (hF : FrB A Bs l c W) (h0 : J [] W) :
    CallsIn Fence.wide n Try.prog 66 #[.func (.yield l0) #[] #[], .pointer (some ⟨Bs, 0, none⟩)] W fun e W' => (∃ v, e = .returned v) ∧
      ((∃ ys, ys = xsB B l hB ∧ J ys W') ∨ (∃ pre, pre <+: xsB B l hB ∧ Jx pre W')) := by
  refine callsIn_of_wp Try.func66 rfl trivial ?_ rfl
  simp only [Try.ntmps66, List.size_toArray, List.length_cons, List.length_nil, Nat.reduceAdd, Nat.reduceSub, Array.replicate_succ, Array.replicate_zero, List.push_toArray, List.append_toArray, List.nil_append, List.cons_append]
  have hBs := hF.box.cell 0
  simp only [List.getElem?_toArray, List.getElem?_cons_zero] at hBs
  gi_wp2
  gi_loopw [3] (fun i wr => ∃ j : Nat, j ≤ l.length ∧ i = .int .i64 ((l.length : Int) - 1 - j) ∧ J ((xsB B l hB).take j) wr ∧ FrB A Bs l c wr) (fun i _ => (intOf i + 1).toNat)
  case atStart => exact ⟨0, Nat.zero_le _, by simp, by simpa using h0, hF⟩
  case round =>
    obtain ⟨j, hj, rfl, hJs, hFr⟩ := hrel
    by_cases hlt : j < l.length
    · obtain ⟨k, hk⟩ : ∃ k, k = l.length - 1 - j := ⟨_, rfl⟩
      have hki : (l.length : Int) - 1 - (j : Int) = (k : Int) := by omega
      rw [hki]
      obtain ⟨b, cur, rfl, hbk, hck⟩ := hFr.row k (by omega)
      have hcx := (hbk.cell k).trans hck
      have hBr := hFr.box.cell 0
      simp only [List.getElem?_toArray, List.getElem?_cons_zero] at hBr
      have hkB : l.getD k 0 < B := (by
        rw [List.getD_eq_getElem?_getD, List.getElem?_eq_getElem (show k < l.length by omega)]
        exact hB _ (List.getElem_mem _))
      obtain ⟨fn, tmps, assign, body, hy, hR⟩ := hY _ ⟨(k, l.getD k 0), hkB⟩ wr hJs (by rw [List.length_take, xsB_len]; omega)
      rw [xsB_step B l hB hlt hk hkB] at hR
      dsimp only [encB] at hy
      have e0 : decide ((0 : Int) ≤ (k : Int)) = true := decide_eq_true (by omega)
      have hkl : (k : Int) < (l.length : Int) := by omega
      have HK := Lib.hid hki
      clear hki hk
      generalize l.getD k 0 = y at *
      clear hbk hck hBs
      gi_wp2
      refine hR.mono ?_
      rintro e W3 (⟨rfl, hJ3, hk3⟩ | ⟨rfl, hJx3⟩)
      · gi_wp2
        go_roundw
        case rel => exact ⟨j + 1, by omega, by have := HK.out; congr 1; omega, hJ3, hk3 hFr⟩
        case measure => have := HK.out; simp [intOf] <;> omega
      · gi_wp2
        refine bodyPost_ret (results_none rfl _ _ _) rfl ?_
        exact ⟨⟨_, rfl⟩, .inr ⟨_, List.take_prefix _ _, hJx3⟩⟩
    · obtain rfl : j = l.length := by omega
      have hki : (l.length : Int) - 1 - (l.length : Int) = -1 := by omega
      rw [hki]
      gi_wp2
      go_end0
      exact ⟨⟨_, rfl⟩, .inl ⟨_, by rw [← xsB_len B l hB, List.take_length], hJs⟩⟩
theorem back_stops (n : Nat) (hn : 1 ≤ n) (Bs : Nat) (A : Option Addr) (c : Nat) (B : Nat) (l : List Nat) (hB : ∀ z ∈ l, z < B) (hl : l.length ≤ 1000) (w : World) (hF : FrB A Bs l c w) :
    SeqStopsK Fence.wide n Try.prog 66 #[.pointer (some ⟨Bs, 0, none⟩)] (encB B) (KpB A Bs l c) (fun ys => ys = xsB B l hB) (fun pre => pre <+: xsB B l hB) l.length w := fun l0 J Jx W hW _ _ hY h0 =>
  back_in n hn l0 Bs A c B l hB hl J Jx hY W (hF.grew (Grew.of_below hW)) h0
end Go.Proofs.Ytpdkacfhnmfmaaa

/- Layer 23: slices.Repeat of one number. Condition: no more than a thousand. -/
namespace Go.Proofs.Ytpdkacfhnmfmaaa
open Go.RowKit
attribute [local go_sem] more_cell more_frozen more_more more_setCell more_of_drew more_of_drewN lt_more le_more past_cell past_cell2 past_frozen past_frozen2 past_setCell past_setCell2 mid_cell mid_frozen mid_setCell
attribute [local go_sem ↓] Go.wp_at_zero Go.wp_at_succ

/-- How far a new row is filled. -/
structure RpI (w : World) (n : Nat) (v : Int) (j : Nat) (wr : World) : Prop where
  grew : Grew w wr
  blk : ∃ cur : List Value, Blok wr w.heap.size 3 cur.toArray ∧ cur.length = n ∧ ∀ i, i < j → cur[i]? = some (.int .i64 v)
theorem RpI.own {w wr : World} {n : Nat} {v : Int} (hn : n ≤ 1000) (h : RpI w n v n wr) : wr.ownsRow w.heap.size 3 1 (.slice (some ⟨w.heap.size, 0, none⟩) n n) n (iV (List.replicate n v)) := by
  obtain ⟨hg, cur, hb, hl, hc⟩ := h
  have hcur : cur = iV (List.replicate n v) := by
    apply List.ext_getElem?
    intro i
    by_cases hi : i < n
    · rw [hc i hi]
      simp [iV, hi]
    · rw [List.getElem?_eq_none (by omega), List.getElem?_eq_none (by simp [iV]; omega)]
  refine ⟨by simp [iV], Or.inr ⟨w.heap.size, n, cur.toArray, rfl, Nat.le_refl _, hb, Nat.le_refl _, ?_, by simp [hl], by rw [hcur]; simp [iV]⟩⟩
  unfold maxLen
  omega
theorem spl_get {cur : List Value} {x : Value} {o m i : Nat} (ho : o ≤ cur.length) (h : i < o → cur[i]? = some x) (hi : i < o + m) : (cur.take o ++ List.replicate m x ++ cur.drop (o + m))[i]? = some x := by
  have hl : (cur.take o).length = o := by rw [List.length_take]; omega
  rw [List.getElem?_append_left (by rw [List.length_append, hl, List.length_replicate]; exact hi)]
  by_cases hio : i < o
  · rw [List.getElem?_append_left (by rw [hl]; exact hio), List.getElem?_take, if_pos hio, h hio]
  · rw [List.getElem?_append_right (by rw [hl]; omega), hl, List.getElem?_replicate, if_pos (by omega)]
theorem spl_len {cur : List Value} {x : Value} {o m : Nat} (ho : o + m ≤ cur.length) : (cur.take o ++ List.replicate m x ++ cur.drop (o + m)).length = cur.length := by
  simp
  omega
theorem rp_copy {w wr : World} {v : Int} {cur : List Value} (hB : Blok wr w.heap.size 3 cur.toArray) (hg : Grew w wr) (o m : Nat) (a : Addr) (dLen dCap sLen sCap : Nat) (hsrc : ∀ i, i < m → wr.cell? (a.add i) = some (.int .i64 v)) (hm : m = Nat.min sLen dLen) (hfit : o + m ≤ cur.length) :
    ∃ w', (Builtin.copy_ #[25, 25] 3 #[.slice (some ⟨w.heap.size, o, none⟩) dLen dCap, .slice (some a) sLen sCap]).run Try.prog wr = .ok (.int .i64 m) w' ∧ Blok w' w.heap.size 3 (cur.take o ++ List.replicate m (Value.int .i64 v) ++ cur.drop (o + m)).toArray ∧ Grew w w' := by
  have hr := run_copy_row (P := Try.prog) wr 25 25 3 3 w.heap.size o dLen dCap a sLen sCap cur.toArray 3 (List.replicate m (Value.int .i64 v)) Try.underlying25 (by kernel_rfl) hB (by rw [List.length_replicate]; exact hm)
    (fun j x hj => by
      obtain ⟨h2, h3⟩ := List.getElem?_eq_some_iff.1 hj
      rw [List.length_replicate] at h2
      rw [← h3, List.getElem_replicate]
      exact hsrc j h2)
    (by rw [List.length_replicate]; simpa using hfit) (fun x hx => by rw [(List.mem_replicate.1 hx).2]; rfl)
  rw [List.length_replicate] at hr
  refine ⟨wr.setRow w.heap.size (cur.take o ++ List.replicate m (Value.int .i64 v) ++ cur.drop (o + m)).toArray, hr, ?_, Grew.of_below (below_setRow hg.below (Nat.le_refl _) _)⟩
  exact setRow_heap wr w.heap.size cur.toArray _ 3 (0, 0) hB
set_option maxRecDepth 1000000 in
set_option maxHeartbeats 4000000 in
theorem rep_any (b : Nat) (v : Int) (n : Nat) (hn : n ≤ 1000) (w : World) (hb : b < w.heap.size) (hv : w.cell? ⟨b, 0, none⟩ = some (.int .i64 v)) :
    Calls Try.prog 57 #[.slice (some ⟨b, 0, none⟩) 1 1, .int .i64 n] w fun e w' => e = .returned (.slice (some ⟨w.heap.size, 0, none⟩) n n) ∧ RpI w n v n w' := by
  have HM : Hid (∀ W, Calls Try.prog 65 #[.int .u64 1, .int .u64 (n : Int)] W fun e w' => e = .returned (.tuple #[.int .u64 0, .int .u64 (n : Int)]) ∧ w' = W) := Lib.hid fun W => by
    have h := Try.bits_Mul 1 n (by omega) (by omega) W
    have h1 : 1 * n / 18446744073709551616 = 0 := by omega
    have h2 : 1 * n % 18446744073709551616 = n := by omega
    rw [h1, h2] at h
    exact h
  obtain ⟨j0, hj, hj0, hj1, hj2⟩ := info_parts infoI
  have HJ := Lib.hid hj
  have HJ0 := Lib.hid hj0
  have HJ1 := Lib.hid hj1
  have HJ2 := Lib.hid hj2
  clear hj hj0 hj1 hj2
  have e0 : decide ((n : Int) < 0) = false := decide_eq_false (by omega)
  have e0' : ¬ (n : Int) < 0 := by omega
  have e1 : decide ((9223372036854775807 : Int) < (n : Int)) = false := decide_eq_false (by omega)
  have e1' : ¬ (9223372036854775807 : Int) < (n : Int) := by omega
  have e2 : (n : Int) ≤ 1000 := by omega
  go_enter Try.func57, Try.ntmps57
  go_upto_region 7 with (first | (go_at_call 65; (with_reducible refine (HM.out _).mono ?_); rintro e w6 ⟨rfl, hw6⟩; have hw7 := hw6.symm; subst hw7) | (at_make; refine wpList_make_row _ rfl _ _ 25 rfl 3 j0 (.int .i64 0) Try.underlying25 HJ.out HJ0.out HJ1.out rfl _ _ n rfl rfl (by rw [HJ2.out]; omega) (by omega) ?_))
  obtain ⟨W0, hW0⟩ : ∃ W0, w.alloc (Obj.cells (madeCells #[Value.int IntKind.i64 0] n) 3) = W0 := ⟨_, rfl⟩
  obtain ⟨cur0, hc0⟩ : ∃ cur0, (madeCells #[Value.int IntKind.i64 0] n).toList = cur0 := ⟨_, rfl⟩
  have hml : cur0.length = n := by rw [← hc0]; simp [madeCells]
  have HB0 : Hid (Blok W0 w.heap.size 3 cur0.toArray) := Lib.hid (by
    rw [← hW0, ← hc0, Array.toArray_toList]
    exact World.alloc_heap_new w _)
  have HL0 : Hid (Below w.heap.size w W0) := Lib.hid (by rw [← hW0]; exact (Below.refl _ w).alloc (Nat.le_refl _) _)
  have hv0 : W0.cell? ⟨b, 0, none⟩ = some (.int .i64 v) := (HL0.out.cell (p := ⟨b, 0, none⟩) hb).trans hv
  have HV0 := Lib.hid hv0
  rw [hW0]
  have HML := Lib.hid hml
  clear hW0 hv0 hml hv hc0
  obtain ⟨w9, hr9, hb9, hg9⟩ := rp_copy (v := v) HB0.out (Grew.of_below HL0.out) 0 (Nat.min 1 n) ⟨b, 0, none⟩ n n 1 1 (fun i hi => by (have h4 : Nat.min 1 n ≤ 1 := Nat.min_le_left _ _; obtain rfl : i = 0 := (by omega); have h7 := HV0.out; simpa [Addr.add] using h7)) rfl (by rw [HML.out]; have : Nat.min 1 n ≤ n := Nat.min_le_right _ _; omega)
  have HR9 : Hid (RpI w n v (Nat.min 1 n) w9) := Lib.hid ⟨hg9, _, hb9, by (have h5 : Nat.min 1 n ≤ n := Nat.min_le_right _ _; have := HML.out; rw [spl_len (by omega)]; exact this), fun i hi => spl_get (o := 0) (m := Nat.min 1 n) (Nat.zero_le _) (fun h => absurd h (Nat.not_lt_zero _)) (by rw [Nat.zero_add]; exact hi)⟩
  obtain ⟨m0, hm0⟩ : ∃ m0, Nat.min 1 n = m0 := ⟨_, rfl⟩
  rw [hm0] at hr9 HR9
  have HM0 : Hid (m0 ≤ n ∧ (1 ≤ m0 ∨ n = 0)) := Lib.hid (by rw [← hm0]; exact ⟨Nat.min_le_right _ _, by rcases Nat.eq_zero_or_pos n with h | h; exact Or.inr h; exact Or.inl (Nat.le_min.2 ⟨Nat.le_refl _, h⟩)⟩)
  clear hm0 hb9 hg9
  go_wp2
  go_loopw [8] (fun x wr => ∃ j : Nat, x = .int .i64 (j : Int) ∧ j ≤ n ∧ (1 ≤ j ∨ n = 0) ∧ RpI w n v j wr) (fun x _ => n - (intOf x).toNat)
  case atStart => exact ⟨m0, rfl, HM0.out.1, HM0.out.2, HR9.out⟩
  case round =>
    obtain ⟨j, rfl, hj, hj1, hR⟩ := hrel
    have HR := Lib.hid hR
    by_cases hlt : j < n
    · have e5 : decide ((j : Int) < (n : Int)) = true := decide_eq_true (by omega)
      have hjn : (j : Int) < (n : Int) := by omega
      have hne : ¬ n = j := by omega
      obtain ⟨hgr, cur, hbk, hcl, hcc⟩ := hR
      obtain ⟨w8, hr8, hb8, hg8⟩ := rp_copy (v := v) (wr := wr.drew) hbk hgr.drew j (Nat.min j (n - j)) ⟨w.heap.size, 0, none⟩ (n - j) (n - j) j n (fun i hi => by (have h4 : Nat.min j (n - j) ≤ j := Nat.min_le_left _ _; have h5 := hbk.cell i; have h6 := hcc i (by omega); simp only [List.getElem?_toArray] at h5; rw [h6] at h5; have h7 : (Addr.mk w.heap.size 0 none).add i = ⟨w.heap.size, i, none⟩ := (by by_cases h0 : i = 0 <;> simp [Addr.add, h0]); rw [h7]; exact h5)) rfl (by have : Nat.min j (n - j) ≤ n - j := Nat.min_le_right _ _; omega)
      have HR8 : Hid (RpI w n v (j + Nat.min j (n - j)) w8) := Lib.hid ⟨hg8, _, hb8, by (have : Nat.min j (n - j) ≤ n - j := Nat.min_le_right _ _; rw [spl_len (by omega)]; exact hcl), fun i hi => spl_get (by omega) (fun h => hcc i h) hi⟩
      obtain ⟨m1, hm1⟩ : ∃ m1, Nat.min j (n - j) = m1 := ⟨_, rfl⟩
      have HM1 : Hid (j + m1 ≤ n ∧ 1 ≤ m1) := Lib.hid (by rw [← hm1]; exact ⟨by have : Nat.min j (n - j) ≤ n - j := Nat.min_le_right _ _; omega, Nat.le_min.2 ⟨by omega, by omega⟩⟩)
      rw [hm1] at hr8 HR8
      have HR8r := Lib.hid hr8
      have hjm : ((j : Int) + (m1 : Int)) ≤ 1000 := by have := HM1.out; omega
      have hwr : IntKind.i64.wrap ((j : Int) + (m1 : Int)) = ((j + m1 : Nat) : Int) := by
        rw [IntKind.wrap_i64]
        have := HM1.out
        omega
      clear hm1 hb8 hg8 hbk hgr hcl hcc hr9 cur
      go_wp2
      refine wp_region_S (fun _ => True) (by kernel_rfl) ?_
      refine held_take 0 (v := ?_) rfl (by kernel_rfl) (by kernel_rfl) (by kernel_rfl) (fun _ _ _ h => h) (by rfl) ?_ trivial ?_
      rotate_left
      · (intro W hW; go_simp; with_reducible rfl)
      refine held_take 1 (v := ?_) rfl (by kernel_rfl) (by kernel_rfl) (by kernel_rfl) (fun _ _ _ h => h) (by rfl) ?_ trivial ?_
      rotate_left
      · (intro W hW; go_simp; with_reducible rfl)
      refine held_take 2 (v := ?_) rfl (by kernel_rfl) (by kernel_rfl) (by kernel_rfl) (fun _ _ _ h => h) (by rfl) ?_ trivial ?_
      rotate_left
      · (intro W hW; go_simp; with_reducible rfl)
      refine held_take 3 (v := ?_) rfl (by kernel_rfl) (by kernel_rfl) (by kernel_rfl) (fun _ _ _ h => h) (by rfl) ?_ trivial ?_
      rotate_left
      · (intro W hW; go_simp; with_reducible rfl)
      refine held_take 4 (v := ?_) rfl (by kernel_rfl) (by kernel_rfl) (by kernel_rfl) (fun _ _ _ h => h) (by rfl) ?_ trivial ?_
      rotate_left
      · (intro W hW; go_simp; with_reducible rfl)
      refine held_take 5 (v := ?_) rfl (by kernel_rfl) (by kernel_rfl) (by kernel_rfl) (fun _ _ _ h => h) (by rfl) ?_ trivial ?_
      rotate_left
      · (intro W hW; go_simp; with_reducible rfl)
      refine held_take 6 (v := ?_) rfl (by kernel_rfl) (by kernel_rfl) (by kernel_rfl) (fun _ _ _ h => h) (by rfl) ?_ trivial ?_
      rotate_left
      · (intro W hW; go_simp; with_reducible rfl)
      refine held_norm (a' := ?_) ?_ ?_
      rotate_left
      · (go_simp; with_reducible rfl)
      refine held_call 7 (by kernel_rfl) rfl (by rfl) (fun K hK => ?_)
      go_simp
      go_wp2_with (fail)
      refine hK.out _ _ trivial ?_
      clear hK K
      refine held_take 8 (v := ?_) rfl (by kernel_rfl) (by kernel_rfl) (by kernel_rfl) (fun _ _ _ h => h) (by rfl) ?_ trivial ?_
      rotate_left
      · (intro W hW; go_simp; with_reducible rfl)
      refine held_take 9 (v := ?_) rfl (by kernel_rfl) (by kernel_rfl) (by kernel_rfl) (fun _ _ _ h => h) (by rfl) ?_ trivial ?_
      rotate_left
      · (intro W hW; go_simp; with_reducible rfl)
      refine held_norm (a' := ?_) ?_ ?_
      rotate_left
      · (go_simp; with_reducible rfl)
      refine held_done (by kernel_rfl) ?_
      all_goals go_wp2
      go_roundw
      case rel => exact ⟨j + m1, by first | rfl | (simp), by have := HM1.out; omega, Or.inl (by have := HM1.out; omega), HR8.out⟩
      case measure => have := HM1.out; simp [intOf]; omega
    · obtain rfl : j = n := by omega
      have e5 : decide ((j : Int) < (j : Int)) = false := decide_eq_false (by omega)
      go_wp2
      go_ret
      exact ⟨rfl, HR.out⟩
end Go.Proofs.Ytpdkacfhnmfmaaa

/- Layer 23: all depths, by the program. Condition: no more than a thousand nodes, and ways that end. -/
namespace Go.Proofs.Ytpdkacfhnmfmaaa
open Go.RowKit Go.Shelf Go.Proofs
attribute [local go_sem] Oper.semAt_some

def backD (s : List Int × Int) (pre : List (Nat × Nat)) : List Int × Int := pre.foldl (fun s x => (s.1.set x.2 (wrap64 (s.2 + 1)), wrap64 (s.2 + 1))) s
def startD (p os : List Int) (i : Int) : Int := if 0 ≤ endD p os p.length i ∧ endD p os p.length i < p.length then os.getD (endD p os p.length i).toNat 0 else -1
def stepD (p os : List Int) (i : Int) : List Int := (backD (os, startD p os i) (xsR (wayD p os p.length i))).1
def depF (p : List Int) (i : Nat) : List Int := (List.range i).foldl (fun (os : List Int) (k : Nat) => stepD p os (k : Int)) (List.replicate p.length (-1))
theorem depF_succ (p : List Int) (i : Nat) : depF p (i + 1) = stepD p (depF p i) (i : Int) := by
  unfold depF
  rw [List.range_succ, List.foldl_append]
  rfl
theorem backD_snoc (s : List Int × Int) (pre : List (Nat × Nat)) (x : Nat × Nat) : backD s (pre ++ [x]) = ((backD s pre).1.set x.2 (wrap64 ((backD s pre).2 + 1)), wrap64 ((backD s pre).2 + 1)) := by
  unfold backD
  rw [List.foldl_append]
  rfl
theorem endD_endN (p os : List Int) : ∀ (K : Nat) (i : Int), Unk p os (endD p os K i) → endN p K i = endD p os K i := by
  intro K
  induction K with
  | zero => intro i _; rfl
  | succ K ih =>
    intro i h
    unfold endD at h ⊢
    by_cases hu : Unk p os i
    · rw [if_pos hu] at h ⊢
      rw [endN, if_pos ⟨hu.1, hu.2.1⟩]
      exact ih _ h
    · rw [if_neg hu] at h
      exact absurd h hu
/-- What is known so far. -/
structure DpS (w : World) (b0 g0 n : Nat) (os : List Int) (wr : World) : Prop where
  grew : Grew w wr
  lowb : w.heap.size ≤ b0
  lowg : w.heap.size ≤ g0
  len : os.length = n
  row : Blok wr b0 3 (iV os).toArray
  ptr : Blok wr g0 25 #[.slice (some ⟨b0, 0, none⟩) n n]
/-- The marks of loops that are over. -/
def Marks (w wr : World) : List Deferred → Prop
  | [] => True
  | d :: ds => ∃ D, d = { target := .collected D, args := #[] } ∧ w.heap.size ≤ D ∧ wr.heap[D]? = some (.deferred (some [])) ∧ (∀ d' ∈ ds, d'.target ≠ .collected D) ∧ Marks w wr ds
theorem Marks.on {w wr W : World} {ds : List Deferred} (h : Marks w wr ds) (k : ∀ D, w.heap.size ≤ D → (∃ d ∈ ds, d.target = .collected D) → wr.heap[D]? = some (.deferred (some [])) → W.heap[D]? = some (.deferred (some []))) : Marks w W ds := by
  induction ds with
  | nil => trivial
  | cons d ds ih =>
    obtain ⟨D, rfl, h1, h2, h3, h4⟩ := h
    exact ⟨D, rfl, h1, k D h1 ⟨_, List.mem_cons_self .., rfl⟩ h2, h3, ih h4 fun D' a b c => k D' a (by obtain ⟨x, hx, e⟩ := b; exact ⟨x, List.mem_cons_of_mem _ hx, e⟩) c⟩
theorem Marks.lt {w wr : World} {ds : List Deferred} (h : Marks w wr ds) : ∀ d ∈ ds, ∃ D, d.target = .collected D ∧ D < wr.heap.size := by
  induction ds with
  | nil => intro d hd; cases hd
  | cons d ds ih =>
    obtain ⟨D, rfl, h1, h2, h3, h4⟩ := h
    intro x hx
    rcases List.mem_cons.1 hx with rfl | hx
    · exact ⟨D, rfl, (Array.getElem?_eq_some_iff.1 h2).1⟩
    · exact ih h4 x hx
theorem marks_leave {F : Fence} {n : Nat} {P : Program} {fn : Func} {tmps : Array Value} {R : Ending → World → Prop} {w : World} (Φ : World → Prop)
    (hΦ : ∀ W D, w.heap.size ≤ D → W.heap[D]? = some (.deferred (some [])) → Φ W → Φ (W.putObj D (.deferred none)))
    (hR : ∀ W, Φ W → LeavesInM F n P fn tmps R [] .returning W) : ∀ (ds : List Deferred) (wr : World), Marks w wr ds → Φ wr → LeavesInM F n P fn tmps R ds .returning wr := by
  intro ds
  induction ds with
  | nil => intro wr _ h; exact hR wr h
  | cons d ds ih =>
    intro wr hm h
    obtain ⟨D, rfl, h1, h2, h3, h4⟩ := hm
    refine ⟨by simp, .inl ⟨D, _, rfl, run_takeDeferred h2, ih _ (h4.on fun D' _ hd hk => ?_) (hΦ _ _ h1 h2 h)⟩⟩
    have hne : D ≠ D' := fun e => by
      obtain ⟨x, hx, e2⟩ := hd
      exact h3 x hx (e ▸ e2)
    simp [World.putObj, hne, hk]
/-- All but two blocks lie as they lay. -/
structure Turn2 (wB : World) (b0 gd : Nat) (W : World) : Prop where
  os : W.os = wB.os
  tape : W.tape = wB.tape
  output : W.output = wB.output
  size : wB.heap.size ≤ W.heap.size
  block : ∀ k, k < wB.heap.size → k ≠ b0 → k ≠ gd → W.heap[k]? = wB.heap[k]?
theorem Turn2.refl (wB : World) (b0 gd : Nat) : Turn2 wB b0 gd wB := ⟨rfl, rfl, rfl, Nat.le_refl _, fun _ _ _ _ => rfl⟩
theorem Turn2.below {wB W W' : World} {b0 gd : Nat} (h : Turn2 wB b0 gd W) (k : Below wB.heap.size W W') : Turn2 wB b0 gd W' :=
  ⟨k.os.trans h.os, k.tape.trans h.tape, k.output.trans h.output, Nat.le_trans h.size k.size, fun i a b c => (k.block i a).trans (h.block i a b c)⟩
theorem Turn2.set {wB W : World} {b0 gd : Nat} (h : Turn2 wB b0 gd W) {a : Addr} (ha : a.block = b0 ∨ a.block = gd) (v : Value) : Turn2 wB b0 gd (W.setCell a v) := by
  have k := (Below.refl 0 W).setCell (p := a) (Nat.zero_le _) v
  refine ⟨k.os.trans h.os, k.tape.trans h.tape, k.output.trans h.output, Nat.le_trans h.size k.size, fun i hi hb hg => ?_⟩
  rw [← h.block i hi hb hg]
  have hne : a.block ≠ i := fun e => by rcases ha with e2 | e2 <;> omega
  simp [World.setCell, Array.getElem?_modify, hne]
theorem Turn2.blok {wB W : World} {b0 gd : Nat} (h : Turn2 wB b0 gd W) {g : Nat} {t : TypeId} {cs : Array Value} (hb : Blok wB g t cs) (h1 : g ≠ b0) (h2 : g ≠ gd) : Blok W g t cs := by
  have := hb.lt
  unfold Blok at hb ⊢
  rw [h.block g this h1 h2, hb]
theorem Turn2.grew {w wB W : World} {b0 gd : Nat} (h : Turn2 wB b0 gd W) (hg : Grew w wB) (h1 : w.heap.size ≤ b0) (h2 : w.heap.size ≤ gd) : Grew w W := by
  have k := hg.below
  have hs := hg.size
  exact Grew.of_below ⟨h.os.trans k.os, h.tape.trans k.tape, h.output.trans k.output, Nat.le_trans hs h.size, fun i hi => (h.block i (by omega) (by omega) (by omega)).trans (k.block i hi)⟩
theorem FrB.two {A : Option Addr} {Bs : Nat} {l : List Nat} {c : Nat} {W : World} (h : FrB A Bs l c W) {a1 a2 : Addr} {x1 x2 : Array Value} (k1 : Blok W a1.block 3 x1) (k2 : Blok W a2.block 3 x2) (hA : ∀ b, A = some ⟨b, 0, none⟩ → b ≠ a1.block ∧ b ≠ a2.block) (v1 v2 : Value) :
    FrB A Bs l c ((W.setCell a1 v1).setCell a2 v2) := by
  have hne : ∀ a : Addr, ∀ x, Blok W a.block 3 x → Bs ≠ a.block := fun a x k e => by
    have h1 := h.box
    rw [e] at h1
    unfold Blok at h1 k
    rw [h1] at k
    injection k with k
    injection k with _ k _
    exact neSI k
  refine ⟨(h.box.far (hne a1 _ k1) v1).far (hne a2 _ k2) v2, fun j hj => ?_⟩
  obtain ⟨b, cur, h1, h2, h3⟩ := h.row j hj
  exact ⟨b, cur, h1, (h2.far (hA b h1).1 v1).far (hA b h1).2 v2, h3⟩
/-- What the loop over the way back says between two rounds. -/
def BkI (wB : World) (b0 gd n B : Nat) (s : List Int × Int) (pre : List (BX B)) (W : World) : Prop :=
  Turn2 wB b0 gd W ∧ Blok W gd 3 #[.int .i64 (backD s (pre.map Subtype.val)).2] ∧ Blok W b0 3 (iV (backD s (pre.map Subtype.val)).1).toArray ∧ (backD s (pre.map Subtype.val)).1.length = n
theorem BkI.own {wB : World} {b0 gd n B : Nat} {s : List Int × Int} (h0 : b0 < wB.heap.size) (hg : gd < wB.heap.size) : OwnFrom wB.heap.size (BkI wB b0 gd n B s) := by
  rintro pre W W' row ⟨t, b1, b2, len⟩ hgr hr
  have hb : Below wB.heap.size W W' := (Below.refl _ W).grown hgr t.size (fun k e => (hr k e).1)
  refine ⟨t.below hb, ?_, ?_, len⟩
  · unfold Blok at b1 ⊢
    rw [hb.block _ hg, b1]
  · unfold Blok at b2 ⊢
    rw [hb.block _ h0, b2]
/-- What is known when a way has been gone. -/
structure Pk (w : World) (b0 g0 n : Nat) (os : List Int) (A6 : Option Addr) (fw : List Nat) (ds : List Deferred) (gd : Nat) (d0 : Int) (wN : World) : Prop where
  dps : DpS w b0 g0 n os wN
  num : Blok wN gd 3 #[.int .i64 d0]
  row : ∀ j, j < fw.length → ∃ b cur, A6 = some ⟨b, 0, none⟩ ∧ Blok wN b 3 cur ∧ cur[j]? = some (.int .i64 (fw.getD j 0 : Nat))
  far : ∀ b, A6 = some ⟨b, 0, none⟩ → b ≠ gd ∧ b ≠ b0
  marks : Marks w wN ds
  low : w.heap.size ≤ gd
  ne0 : b0 ≠ gd
  neg : g0 ≠ gd
  neb : g0 ≠ b0
theorem Blok.ne {W : World} {g g' : Nat} {t t' : TypeId} {cs cs' : Array Value} (h : Blok W g t cs) (k : Blok W g' t' cs') (hne : t ≠ t') : g ≠ g' := fun e => by
  subst e
  unfold Blok at h k
  rw [h] at k
  injection k with k
  injection k with _ k _
  exact hne k
theorem Pk.mk1 {w W w6 w7 : World} {b0 g0 n : Nat} {os : List Int} {A6 : Option Addr} {c6 : Nat} {fw : List Nat} {ds : List Deferred} (hD : DpS w b0 g0 n os W) (hM : Marks w W ds) (hs6 : WaS W W.heap.size fw w6) (ho6 : w6.ownsRow (W.heap.size + 1) 3 1 (.slice A6 fw.length c6) fw.length (nL fw)) (hg7 : Grew (w6.alloc (.cells #[.int .i64 (-1)] 3)) w7) :
    Pk w b0 g0 n os A6 fw ds w6.heap.size (-1) w7 := by
  have hW7 : Grew W w7 := (hs6.grew.alloc _).trans hg7
  have hW6 := hs6.grew.size
  have hb := hD.row.lt
  have hg := hD.ptr.lt
  have hww := hD.grew.size
  refine ⟨⟨hD.grew.trans hW7, hD.lowb, hD.lowg, hD.len, hD.row.grew hW7, hD.ptr.grew hW7⟩, (Blok.new _ _ _ _ rfl).grew hg7, ?_, ?_, hM.on (fun D _ hd hk => ?_), by omega, by omega, by omega, hD.ptr.ne hD.row neSI⟩
  · intro j hj
    obtain ⟨hl, ⟨_, h0⟩ | ⟨g, cap, cur, hv, hb', hh, hn', hcap, hsz, ht⟩⟩ := ho6
    · omega
    · injection hv with e1 e2 e3
      have hB : Blok w6 g 3 cur := hh
      refine ⟨g, cur, e1, (hB.alloc _).grew hg7, ?_⟩
      have h2 : (cur.toList.take (fw.length * 1))[j]? = (nL fw)[j]? := by rw [ht]
      rw [List.getElem?_take, if_pos (by omega), nL_at hj, Array.getElem?_toList] at h2
      rw [h2, List.getD_eq_getElem?_getD, List.getElem?_eq_getElem hj]
      rfl
  · intro b e
    obtain ⟨hl, ⟨hv, h0⟩ | ⟨g, cap, cur, hv, hb', hh, hn', hcap, hsz, ht⟩⟩ := ho6
    · injection hv with e1 e2 e3
      rw [e1] at e
      cases e
    · injection hv with e1 e2 e3
      rw [e1] at e
      injection e with e
      injection e with e
      have hB : Blok w6 g 3 cur := hh
      have := hB.lt
      omega
  · obtain ⟨d, hd, e⟩ := hd
    exact (hW7.below.block D (Array.getElem?_eq_some_iff.1 hk).1).trans hk
theorem Pk.on {w wN wM : World} {b0 g0 n : Nat} {os : List Int} {A6 : Option Addr} {fw : List Nat} {ds : List Deferred} {gd : Nat} {d0 : Int} (h : Pk w b0 g0 n os A6 fw ds gd d0 wN) (k : Grew wN wM) : Pk w b0 g0 n os A6 fw ds gd d0 wM :=
  ⟨⟨h.dps.grew.trans k, h.dps.lowb, h.dps.lowg, h.dps.len, h.dps.row.grew k, h.dps.ptr.grew k⟩, h.num.grew k, fun j hj => by obtain ⟨b, cur, h1, h2, h3⟩ := h.row j hj; exact ⟨b, cur, h1, h2.grew k, h3⟩, h.far, h.marks.on (fun D _ _ hk => (k.below.block D (Array.getElem?_eq_some_iff.1 hk).1).trans hk), h.low, h.ne0, h.neg, h.neb⟩
theorem marks_set {w W : World} {ds : List Deferred} (h : Marks w W ds) {a : Addr} {t : TypeId} {cs : Array Value} (hb : Blok W a.block t cs) (v : Value) : Marks w (W.setCell a v) ds :=
  h.on fun D _ _ hk => by
    have hne : a.block ≠ D := fun e => by
      rw [e] at hb
      unfold Blok at hb
      rw [hb] at hk
      injection hk with hk
      cases hk
    rw [← hk]
    simp [World.setCell, Array.getElem?_modify, hne]
theorem Pk.set {w wN : World} {b0 g0 n : Nat} {os : List Int} {A6 : Option Addr} {fw : List Nat} {ds : List Deferred} {gd : Nat} {d0 : Int} (h : Pk w b0 g0 n os A6 fw ds gd d0 wN) (d1 : Int) : Pk w b0 g0 n os A6 fw ds gd d1 (wN.setCell ⟨gd, 0, none⟩ (.int .i64 d1)) :=
  ⟨⟨h.dps.grew.setCell (a := ⟨gd, 0, none⟩) h.low _, h.dps.lowb, h.dps.lowg, h.dps.len, h.dps.row.far h.ne0 _, h.dps.ptr.far h.neg _⟩, by simpa using h.num.set 0 (.int .i64 d1), fun j hj => by obtain ⟨b, cur, h1, h2, h3⟩ := h.row j hj; exact ⟨b, cur, h1, h2.far (h.far b h1).1 _, h3⟩, h.far, marks_set (a := ⟨gd, 0, none⟩) h.marks h.num _, h.low, h.ne0, h.neg, h.neb⟩
theorem Pk.frb {w wN : World} {b0 g0 n : Nat} {os : List Int} {A6 : Option Addr} {fw : List Nat} {ds : List Deferred} {gd : Nat} {d0 : Int} (h : Pk w b0 g0 n os A6 fw ds gd d0 wN) (c6 : Nat) : FrB A6 wN.heap.size fw c6 (wN.alloc (.cells #[.slice A6 fw.length c6] 25)) :=
  ⟨Blok.new _ _ _ _ rfl, fun j hj => by obtain ⟨b, cur, h1, h2, h3⟩ := h.row j hj; exact ⟨b, cur, h1, h2.alloc _, h3⟩⟩
/-- Behind the loop over the way back. -/
theorem Pk.done {w wB Wd : World} {b0 g0 n : Nat} {os : List Int} {A6 : Option Addr} {fw : List Nat} {ds : List Deferred} {gd : Nat} {d0 : Int} (h : Pk w b0 g0 n os A6 fw ds gd d0 wB) {B : Nat} (hl : ∀ z ∈ fw, z < B) (k : BkI wB b0 gd n B (os, d0) (xsB B fw hl) Wd) {D : Nat} (hD : wB.heap.size ≤ D) (hK : Wd.heap[D]? = some (.deferred (some []))) :
    DpS w b0 g0 n (backD (os, d0) (xsR fw)).1 Wd ∧ Marks w Wd ({ target := .collected D, args := #[] } :: ds) := by
  obtain ⟨t, k1, k2, k3⟩ := k
  rw [xsB_val] at k1 k2 k3
  have hw := h.dps.grew.size
  refine ⟨⟨t.grew h.dps.grew h.dps.lowb h.low, h.dps.lowb, h.dps.lowg, k3, k2, t.blok h.dps.ptr h.neb h.neg⟩, D, rfl, by omega, hK, fun d' hd' e => ?_, h.marks.on fun D' _ _ hk => ?_⟩
  · obtain ⟨D', e', hlt⟩ := h.marks.lt d' hd'
    rw [e'] at e
    injection e with e
    omega
  · have h1 : D' ≠ b0 := fun e => by
      have := h.dps.row
      unfold Blok at this
      rw [e, this] at hk
      injection hk with hk
      cases hk
    have h2 : D' ≠ gd := fun e => by
      have := h.num
      unfold Blok at this
      rw [e, this] at hk
      injection hk with hk
      cases hk
    exact (t.block D' (Array.getElem?_eq_some_iff.1 hk).1 h1 h2).trans hk
set_option maxRecDepth 1000000 in
set_option maxHeartbeats 4000000 in
theorem depths_in (nn : Nat) (hnn : 6 ≤ nn) (p : List Int) (hn : p.length ≤ 1000) (A2 : Option Addr) (k2 : Nat) (hend : ∀ i, ¬ (0 ≤ endN p p.length i ∧ endN p p.length i < p.length)) (w : World) (rp : Row w A2 (iV p)) :
    CallsIn Fence.wide nn Try.prog 42 #[.slice A2 p.length k2] w fun e w' => ∃ b0 : Nat, e = .returned (.slice (some ⟨b0, 0, none⟩) p.length p.length) ∧ Grew w w' ∧ w.heap.size ≤ b0 ∧ (depF p p.length).length = p.length ∧ Blok w' b0 3 (iV (depF p p.length)).toArray := by
  have h1 : 1 ≤ nn := by omega
  have hf1 : Fence.wide.fn 57 := trivial
  have hf2 : Fence.wide.fn 36 := trivial
  have hf3 : Fence.wide.fn 45 := trivial
  have hf4 : Fence.wide.fn 59 := trivial
  obtain ⟨w0, hw0⟩ : ∃ w0, w.alloc (.cells #[.int .i64 (-1)] 3) = w0 := ⟨_, rfl⟩
  have HG0 : Hid (Grew w w0) := Lib.hid (by rw [← hw0]; exact (Grew.refl w).alloc _)
  have HRep := Lib.hid (rep_any w.heap.size (-1) p.length hn w0 (by rw [← hw0, World.size_alloc]; omega) (by rw [← hw0]; have := (Blok.new w 3 #[.int .i64 (-1)] _ rfl).cell 0; simp [this]))
  have HN := Lib.hid hn
  have HE := Lib.hid hend
  have RP := Lib.hid rp
  clear hend rp
  refine callsIn_of_wp_marks Try.func42 rfl trivial ?_ rfl
  simp only [Try.ntmps42, List.size_toArray, List.length_cons, List.length_nil, Nat.reduceAdd, Nat.reduceSub, Array.replicate_succ, Array.replicate_zero, List.push_toArray, List.append_toArray, List.nil_append, List.cons_append]
  gi_wp2_with (gi_at_call 57; refine (callsIn_wide.2 HRep.out).mono ?_; rintro e w1 ⟨rfl, hR⟩; have HR := Lib.hid hR; clear hR)
  have HD : Hid (DpS w w0.heap.size w1.heap.size p.length (depF p 0) (w1.alloc (Obj.cells #[Value.slice (some ⟨w0.heap.size, 0, none⟩) p.length p.length] 25))) := Lib.hid (by
    obtain ⟨hg, cur, hb, hl, hc⟩ := HR.out
    have hcur : cur = iV (depF p 0) := by
      apply List.ext_getElem?
      intro i
      by_cases hi : i < p.length
      · rw [hc i hi]
        simp [iV, depF, hi]
      · rw [List.getElem?_eq_none (by omega), List.getElem?_eq_none (by simp [iV, depF]; omega)]
    rw [hcur] at hb
    exact ⟨(HG0.out.trans hg).alloc _, HG0.out.size, (HG0.out.trans hg).size, by simp [depF], hb.alloc _, Blok.new _ _ _ _ rfl⟩)
  clear hw0 HRep HR HG0
  generalize w1.alloc (Obj.cells #[Value.slice (some ⟨w0.heap.size, 0, none⟩) p.length p.length] 25) = W2 at *
  generalize w0.heap.size = b0 at *
  generalize w1.heap.size = g0 at *
  refine wpIn_loop (fun a W => ∃ (i : Nat) (ds : List Deferred) (u4 u5 u6 u7 u8 u9 u17 u18 u19 u20 u21 u22 u23 u24 u25 u26 u27 u28 u29 u30 u31 u32 u33 u34 u35 u36 u37 u38 u39 u40 u41 : Value), a = { tmps := #[.slice A2 p.length k2, undef, .slice none 0 0, .pointer (some ⟨g0, 0, none⟩), u4, u5, u6, u7, u8, u9, .slice (some ⟨w.heap.size, 0, none⟩) 1 1, .slice A2 p.length k2, .int .i64 p.length, .slice (some ⟨b0, 0, none⟩) p.length p.length, .slice A2 p.length k2, .int .i64 p.length, .int .i64 (i : Int), u17, u18, u19, u20, u21, u22, u23, u24, u25, u26, u27, u28, u29, u30, u31, u32, u33, u34, u35, u36, u37, u38, u39, u40, u41], defers := ds } ∧ i ≤ p.length ∧ DpS w b0 g0 p.length (depF p i) W ∧ Marks w W ds) (fun a _ => p.length - (intOf (a.tmps.getD 16 undef)).toNat) ?start ?round
  case start => exact ⟨0, [], _, _, _, _, _, _, _, _, _, _, _, _, _, _, _, _, _, _, _, _, _, _, _, _, _, _, _, _, _, _, _, rfl, Nat.zero_le _, HD.out, trivial⟩
  case round =>
    rintro a W ⟨i, ds, u4, u5, u6, u7, u8, u9, u17, u18, u19, u20, u21, u22, u23, u24, u25, u26, u27, u28, u29, u30, u31, u32, u33, u34, u35, u36, u37, u38, u39, u40, u41, rfl, hi, hD, hM⟩
    have HD := Lib.hid hD
    have HM := Lib.hid hM
    clear hM
    by_cases hlt : i < p.length
    · have e0 : decide ((i : Int) < (p.length : Int)) = true := decide_eq_true (by omega)
      have hz : ((i : Int)) < (p.length : Int) := by omega
      have HS0 : Hid (WaS W W.heap.size [] (W.alloc (.cells #[.slice none 0 0] 25))) := Lib.hid ⟨(Grew.refl W).alloc _, Nat.le_refl _, none, 0, Blok.new _ _ _ _ rfl, own_none _ _ _ _⟩
      have HOs : Hid (OsU W g0 (depF p i) (some ⟨b0, 0, none⟩) p.length) := Lib.hid ⟨hD.ptr.lt, by have := hD.ptr.cell 0; rw [hD.len]; simpa using this, Or.inr ⟨b0, 0, rfl, hD.row.lt, fun j u hu => by rw [Nat.zero_add, hD.row.cell j]; simpa using hu⟩⟩
      have HCl := Lib.hid (climbdep_any W g0 W.heap.size p (depF p i) hD.len (some ⟨b0, 0, none⟩) p.length HOs.out A2 k2 (RP.out.grew hD.grew) p.length HN.out (i : Int) (fun hu => HE.out (i : Int) (by rw [endD_endN _ _ _ _ hu]; exact ⟨hu.1, hu.2.1⟩)) _ HS0.out)
      clear hD HS0
      obtain ⟨fin, hfin⟩ : ∃ fin, endD p (depF p i) p.length (i : Int) = fin := ⟨_, rfl⟩
      obtain ⟨fw, hfw⟩ : ∃ fw, wayD p (depF p i) p.length (i : Int) = fw := ⟨_, rfl⟩
      have HFW := Lib.hid hfw
      have HFin := Lib.hid hfin
      rw [hfin, hfw] at HCl
      clear hfin hfw
      have HNd := Lib.hid (fun W' => node_any A2 p.length k2 fin W')
      by_cases hnd : 0 ≤ fin ∧ fin < p.length
      · obtain ⟨z, rfl⟩ : ∃ z : Nat, fin = (z : Int) := ⟨fin.toNat, by omega⟩
        have hzp : z < p.length := by omega
        have hzi : (z : Int) < (p.length : Int) := by omega
        have hb : (decide ((0 : Int) ≤ (z : Int)) && decide ((z : Int) < p.length)) = true := by
          rw [decide_eq_true hnd.1, decide_eq_true hnd.2]
          rfl
        rw [hb] at HNd
        obtain ⟨y, hy⟩ : ∃ y, (depF p i).getD z 0 = y := ⟨_, rfl⟩
        have HY : Hid (((iV (depF p i)).toArray)[z]? = some (.int .i64 y)) := Lib.hid (by
          have hzl : z < (depF p i).length := by rw [HD.out.len]; exact hzp
          rw [← hy]
          simp [iV, hzl])
        have HSt : Hid (startD p (depF p i) (i : Int) = y) := Lib.hid (by unfold startD; rw [HFin.out, if_pos hnd, Int.toNat_natCast, hy])
        clear hy
        gi_wp2_with (first | (gi_at_call 36; refine (callsIn_wide.2 HCl.out).mono ?_; rintro e w6 ⟨rfl, hs6⟩; have HS6 := Lib.hid hs6; obtain ⟨A6, c6, hb6, ho6⟩ := hs6.own; have HB6 := Lib.hid hb6; have HO6 := Lib.hid ho6; clear hs6 hb6 ho6) | (gi_at_call 45; refine (callsIn_wide.2 (HNd.out _)).mono ?_; rintro e w7 ⟨rfl, hx7⟩; have HG7 := Lib.hid (show Grew _ w7 from hx7); have hb7 := (HB6.out.alloc (.cells #[.int .i64 (-1)] 3)).grew HG7.out; have t0 := hb7.cell 0; simp only [List.getElem?_toArray, List.getElem?_cons_zero] at t0; have tl := hb7.lt; have hp7 := ((HD.out.ptr.grew HS6.out.grew).alloc (.cells #[.int .i64 (-1)] 3)).grew HG7.out; have p0 := hp7.cell 0; simp only [List.getElem?_toArray, List.getElem?_cons_zero] at p0; have pl := hp7.lt; have hr7 := ((HD.out.row.grew HS6.out.grew).alloc (.cells #[.int .i64 (-1)] 3)).grew HG7.out; have r0 := hr7.cell z; rw [HY.out] at r0; have rl := hr7.lt; have hn7 := (Blok.new w6 3 #[.int .i64 (-1)] _ rfl).grew HG7.out; have q0 := hn7.cell 0; simp only [List.getElem?_toArray, List.getElem?_cons_zero] at q0; have q1 := hn7.thaw 0; have q2 := hn7.lt; have hfar := hb7.far (p := ⟨w6.heap.size, 0, none⟩) (Nat.ne_of_lt HB6.out.lt) (.int .i64 y); have v0 := hfar.cell 0; simp only [List.getElem?_toArray, List.getElem?_cons_zero] at v0; have vl := hfar.lt; clear hb7 hx7 hp7 hr7 hn7 hfar) | (gi_at_call 59; refine (callsIn_wide.2 (back_any A6 fw.length c6 _)).mono ?_; rintro e w8 ⟨rfl, rfl⟩))
        have HPk := Lib.hid ((Pk.mk1 HD.out HM.out HS6.out HO6.out HG7.out).set y)
        clear t0 tl HG7 p0 pl r0 rl q0 q1 q2 v0 vl
        obtain ⟨wN, hwN⟩ : ∃ wN, w7.setCell ⟨w6.heap.size, 0, none⟩ (.int .i64 y) = wN := ⟨_, rfl⟩
        rw [hwN] at HPk ⊢
        have HFr := Lib.hid (HPk.out.frb c6)
        have HPB := Lib.hid (HPk.out.on ((Grew.refl wN).alloc (.cells #[.slice A6 fw.length c6] 25)))
        have hsz : wN.heap.size = w7.heap.size := by rw [← hwN]; simp
        rw [hsz] at HFr
        clear hwN hsz
        have hfl : ∀ z ∈ fw, z < p.length := fun z hz => wayD_lt p _ _ _ z (by rw [HFW.out]; exact hz)
        have hfn : fw.length ≤ 1000 := by have := wayD_len p (depF p i) p.length (i : Int); rw [HFW.out] at this; omega
        obtain ⟨wB, hwB⟩ : ∃ wB, wN.alloc (.cells #[.slice A6 fw.length c6] 25) = wB := ⟨_, rfl⟩
        rw [hwB] at HPB HFr ⊢
        clear hwB
        refine wpIn_rangeFunc_ownG rfl h1 (gf := 66) (lb := #[.pointer (some ⟨w7.heap.size, 0, none⟩)]) rfl trivial (enters_of Try.func66 (by kernel_rfl) rfl)
          (back_stops (nn - 1) (by omega) w7.heap.size A6 c6 p.length fw hfl hfn _ HFr.out) (fun a b c => b (a c)) (fun _ _ _ o' _ h hc _ hF => hF.put h hc o') (Below.refl _ _) (fun _ => rfl)
          (BkI wB b0 w6.heap.size p.length p.length (depF p i, y)) (fun _ _ _ => False) (BkI.own HPB.out.dps.row.lt HPB.out.num.lt) (fun _ _ _ _ _ hs _ _ => hs)
          ⟨Turn2.refl _ _ _, HPB.out.num, HPB.out.dps.row, HPB.out.dps.len⟩
          (fun x => { tmps := #[.slice A2 p.length k2, undef, .slice none 0 0, .pointer (some ⟨g0, 0, none⟩), .int .i64 (i : Int), .pointer (some ⟨W.heap.size, 0, none⟩), .int .i64 (z : Int), .pointer (some ⟨w6.heap.size, 0, none⟩), u8, .int .i64 (x.1.2 : Int), .slice (some ⟨w.heap.size, 0, none⟩) 1 1, .slice A2 p.length k2, .int .i64 p.length, .slice (some ⟨b0, 0, none⟩) p.length p.length, .slice A2 p.length k2, .int .i64 p.length, .int .i64 (i : Int), .bool true, .int .i64 (i : Int), .slice A2 p.length k2, .int .i64 (i : Int), .func (.func 58) #[] #[.pointer (some ⟨g0, 0, none⟩), .pointer (some ⟨W.heap.size, 0, none⟩)], .int .i64 (z : Int), .slice A2 p.length k2, .int .i64 (z : Int), .bool true, .slice (some ⟨b0, 0, none⟩) p.length p.length, .int .i64 (z : Int), .pointer (some ⟨b0, z, none⟩), .int .i64 y, .slice A6 fw.length c6, .func (.func 66) #[] #[.pointer (some ⟨w7.heap.size, 0, none⟩)], .int .i64 (x.1.1 : Int), .int .i64 (x.1.2 : Int), u34, u35, u36, u37, u38, u39, u40, u41], defers := [] }) ?assign1 ?body1 ?done1 ?stop1
        case assign1 =>
          intro l x Wx K hK
          dsimp only [encB]
          gi_wp2
          exact hK
        case body1 =>
          rintro l pre ⟨⟨ix, z⟩, hz⟩ Wx ⟨ht, k1, k2, k3⟩ hlen
          have hz : z < p.length := hz
          obtain ⟨sl, hsl⟩ : ∃ sl, (backD (depF p i, y) (pre.map Subtype.val)).1 = sl := ⟨_, rfl⟩
          obtain ⟨sd, hsd⟩ : ∃ sd, (backD (depF p i, y) (pre.map Subtype.val)).2 = sd := ⟨_, rfl⟩
          have HSl := Lib.hid hsl
          have HSd := Lib.hid hsd
          rw [hsl] at k2 k3
          rw [hsd] at k1
          clear hsl hsd
          have kg := ht.blok HPB.out.dps.ptr HPB.out.neb HPB.out.neg
          have n0 := HPB.out.ne0
          have ng := HPB.out.neg
          have nb := HPB.out.neb
          have r1 : Blok (Wx.setCell ⟨w6.heap.size, 0, none⟩ (.int .i64 (wrap64 (sd + 1)))) w6.heap.size 3 #[.int .i64 (wrap64 (sd + 1))] := by simpa using k1.set 0 (.int .i64 (wrap64 (sd + 1)))
          have r2 : Blok (Wx.setCell ⟨w6.heap.size, 0, none⟩ (.int .i64 (wrap64 (sd + 1)))) g0 25 #[.slice (some ⟨b0, 0, none⟩) p.length p.length] := kg.far ng _
          have r3 : Blok (Wx.setCell ⟨w6.heap.size, 0, none⟩ (.int .i64 (wrap64 (sd + 1)))) b0 3 (iV sl).toArray := k2.far n0 _
          have HF : Hid (KeepsFrom wB.heap.size Wx ((Wx.setCell ⟨w6.heap.size, 0, none⟩ (.int .i64 (wrap64 (sd + 1)))).setCell ⟨b0, z, none⟩ (.int .i64 (wrap64 (sd + 1)))) ∧ KpB A6 w7.heap.size fw c6 Wx ((Wx.setCell ⟨w6.heap.size, 0, none⟩ (.int .i64 (wrap64 (sd + 1)))).setCell ⟨b0, z, none⟩ (.int .i64 (wrap64 (sd + 1)))) ∧ BkI wB b0 w6.heap.size p.length p.length (depF p i, y) (pre ++ [⟨(ix, z), hz⟩]) ((Wx.setCell ⟨w6.heap.size, 0, none⟩ (.int .i64 (wrap64 (sd + 1)))).setCell ⟨b0, z, none⟩ (.int .i64 (wrap64 (sd + 1))))) := Lib.hid (by
            refine ⟨((KeepsOthers.setCell _ _ _).trans (KeepsOthers.setCell _ _ _)).from _, fun hF => hF.two (a1 := ⟨w6.heap.size, 0, none⟩) (a2 := ⟨b0, z, none⟩) k1 k2 HPB.out.far _ _, ?_⟩
            unfold BkI
            rw [List.map_append, List.map_cons, List.map_nil, backD_snoc, HSl.out, HSd.out]
            refine ⟨(ht.set (Or.inr rfl) _).set (Or.inl rfl) _, r1.far (fun e => n0 e.symm) _, ?_, by rw [List.length_set]; exact k3⟩
            have r5 := r3.set z (.int .i64 (wrap64 (sd + 1)))
            have e5 : ((iV sl).toArray).setIfInBounds z (.int .i64 (wrap64 (sd + 1))) = (iV (sl.set z (wrap64 (sd + 1)))).toArray := by simp [iV, List.map_set]
            rw [e5] at r5
            exact r5)
          have s0 := k1.cell 0
          have s1 := k1.thaw 0
          have s2 := k1.lt
          have s3 := r1.cell 0
          have s4 := r1.lt
          have s5 := r2.cell 0
          have s6 := r2.lt
          have s7 := r3.cell z
          have s8 := r3.thaw z
          have s9 := r3.lt
          have hzl : z < sl.length := by omega
          have hzi : (z : Int) < (p.length : Int) := by omega
          simp only [List.getElem?_toArray, List.getElem?_cons_zero] at s0 s3 s5
          rw [show ((iV sl).toArray)[z]? = some (.int .i64 sl[z]) from by simp [iV, hzl]] at s7
          clear ht k1 k2 k3 kg r1 r2 r3
          gi_wp2
          exact HF.out
        case done1 =>
          rintro D ys Wd hDD rfl hk hK
          have HDn := Lib.hid (HPB.out.done hfl hk hDD hK)
          have HST : Hid (stepD p (depF p i) (i : Int) = (backD (depF p i, y) (xsR fw)).1) := Lib.hid (by unfold stepD; rw [HSt.out, HFW.out])
          clear hk hK
          gi_wp2
          refine ⟨⟨i + 1, _, _, _, _, _, _, _, _, _, _, _, _, _, _, _, _, _, _, _, _, _, _, _, _, _, _, _, _, _, _, _, _, rfl, by omega, ?_, HDn.out.2⟩, ?_⟩
          · rw [depF_succ, HST.out]
            exact HDn.out.1
          · show p.length - (intOf (Value.int .i64 ((i : Int) + 1))).toNat < p.length - (intOf (Value.int .i64 (i : Int))).toNat
            simp only [intOf]
            omega
        case stop1 =>
          rintro D c pre Wd _ _ h _
          exact h.elim
      · have hb : (decide (0 ≤ fin) && decide (fin < p.length)) = false := by
          rw [Bool.and_eq_false_iff]
          by_cases h : 0 ≤ fin
          · exact Or.inr (decide_eq_false fun x => hnd ⟨h, x⟩)
          · exact Or.inl (decide_eq_false h)
        rw [hb] at HNd
        gi_wp2_with (first | (gi_at_call 36; refine (callsIn_wide.2 HCl.out).mono ?_; rintro e w6 ⟨rfl, hs6⟩; have HS6 := Lib.hid hs6; obtain ⟨A6, c6, hb6, ho6⟩ := hs6.own; have HB6 := Lib.hid hb6; have HO6 := Lib.hid ho6; clear hs6 hb6 ho6) | (gi_at_call 45; refine (callsIn_wide.2 (HNd.out _)).mono ?_; rintro e w7 ⟨rfl, hx7⟩; have HG7 := Lib.hid (show Grew _ w7 from hx7); have hb7 := (HB6.out.alloc (.cells #[.int .i64 (-1)] 3)).grew HG7.out; have t0 := hb7.cell 0; simp only [List.getElem?_toArray, List.getElem?_cons_zero] at t0; have tl := hb7.lt; clear hb7 hx7) | (gi_at_call 59; refine (callsIn_wide.2 (back_any A6 fw.length c6 _)).mono ?_; rintro e w8 ⟨rfl, rfl⟩))
        have HSt : Hid (startD p (depF p i) (i : Int) = -1) := Lib.hid (by unfold startD; rw [HFin.out, if_neg hnd])
        have HPk := Lib.hid (Pk.mk1 HD.out HM.out HS6.out HO6.out HG7.out)
        clear t0 tl HG7
        obtain ⟨wN, hwN⟩ : ∃ wN, w7 = wN := ⟨_, rfl⟩
        rw [hwN] at HPk ⊢
        have HFr := Lib.hid (HPk.out.frb c6)
        have HPB := Lib.hid (HPk.out.on ((Grew.refl wN).alloc (.cells #[.slice A6 fw.length c6] 25)))
        have hsz : wN.heap.size = wN.heap.size := by rw [← hwN]
        rw [hsz] at HFr
        clear hwN hsz
        have hfl : ∀ z ∈ fw, z < p.length := fun z hz => wayD_lt p _ _ _ z (by rw [HFW.out]; exact hz)
        have hfn : fw.length ≤ 1000 := by have := wayD_len p (depF p i) p.length (i : Int); rw [HFW.out] at this; omega
        obtain ⟨wB, hwB⟩ : ∃ wB, wN.alloc (.cells #[.slice A6 fw.length c6] 25) = wB := ⟨_, rfl⟩
        rw [hwB] at HPB HFr ⊢
        clear hwB
        refine wpIn_rangeFunc_ownG rfl h1 (gf := 66) (lb := #[.pointer (some ⟨wN.heap.size, 0, none⟩)]) rfl trivial (enters_of Try.func66 (by kernel_rfl) rfl)
          (back_stops (nn - 1) (by omega) wN.heap.size A6 c6 p.length fw hfl hfn _ HFr.out) (fun a b c => b (a c)) (fun _ _ _ o' _ h hc _ hF => hF.put h hc o') (Below.refl _ _) (fun _ => rfl)
          (BkI wB b0 w6.heap.size p.length p.length (depF p i, (-1))) (fun _ _ _ => False) (BkI.own HPB.out.dps.row.lt HPB.out.num.lt) (fun _ _ _ _ _ hs _ _ => hs)
          ⟨Turn2.refl _ _ _, HPB.out.num, HPB.out.dps.row, HPB.out.dps.len⟩
          (fun x => { tmps := #[.slice A2 p.length k2, undef, .slice none 0 0, .pointer (some ⟨g0, 0, none⟩), .int .i64 (i : Int), .pointer (some ⟨W.heap.size, 0, none⟩), .int .i64 fin, .pointer (some ⟨w6.heap.size, 0, none⟩), u8, .int .i64 (x.1.2 : Int), .slice (some ⟨w.heap.size, 0, none⟩) 1 1, .slice A2 p.length k2, .int .i64 p.length, .slice (some ⟨b0, 0, none⟩) p.length p.length, .slice A2 p.length k2, .int .i64 p.length, .int .i64 (i : Int), .bool true, .int .i64 (i : Int), .slice A2 p.length k2, .int .i64 (i : Int), .func (.func 58) #[] #[.pointer (some ⟨g0, 0, none⟩), .pointer (some ⟨W.heap.size, 0, none⟩)], .int .i64 fin, .slice A2 p.length k2, .int .i64 fin, .bool false, u26, u27, u28, u29, .slice A6 fw.length c6, .func (.func 66) #[] #[.pointer (some ⟨wN.heap.size, 0, none⟩)], .int .i64 (x.1.1 : Int), .int .i64 (x.1.2 : Int), u34, u35, u36, u37, u38, u39, u40, u41], defers := [] }) ?assign ?body ?done ?stop
        case assign =>
          intro l x Wx K hK
          dsimp only [encB]
          gi_wp2
          exact hK
        case body =>
          rintro l pre ⟨⟨ix, z⟩, hz⟩ Wx ⟨ht, k1, k2, k3⟩ hlen
          have hz : z < p.length := hz
          obtain ⟨sl, hsl⟩ : ∃ sl, (backD (depF p i, (-1)) (pre.map Subtype.val)).1 = sl := ⟨_, rfl⟩
          obtain ⟨sd, hsd⟩ : ∃ sd, (backD (depF p i, (-1)) (pre.map Subtype.val)).2 = sd := ⟨_, rfl⟩
          have HSl := Lib.hid hsl
          have HSd := Lib.hid hsd
          rw [hsl] at k2 k3
          rw [hsd] at k1
          clear hsl hsd
          have kg := ht.blok HPB.out.dps.ptr HPB.out.neb HPB.out.neg
          have n0 := HPB.out.ne0
          have ng := HPB.out.neg
          have nb := HPB.out.neb
          have r1 : Blok (Wx.setCell ⟨w6.heap.size, 0, none⟩ (.int .i64 (wrap64 (sd + 1)))) w6.heap.size 3 #[.int .i64 (wrap64 (sd + 1))] := by simpa using k1.set 0 (.int .i64 (wrap64 (sd + 1)))
          have r2 : Blok (Wx.setCell ⟨w6.heap.size, 0, none⟩ (.int .i64 (wrap64 (sd + 1)))) g0 25 #[.slice (some ⟨b0, 0, none⟩) p.length p.length] := kg.far ng _
          have r3 : Blok (Wx.setCell ⟨w6.heap.size, 0, none⟩ (.int .i64 (wrap64 (sd + 1)))) b0 3 (iV sl).toArray := k2.far n0 _
          have HF : Hid (KeepsFrom wB.heap.size Wx ((Wx.setCell ⟨w6.heap.size, 0, none⟩ (.int .i64 (wrap64 (sd + 1)))).setCell ⟨b0, z, none⟩ (.int .i64 (wrap64 (sd + 1)))) ∧ KpB A6 wN.heap.size fw c6 Wx ((Wx.setCell ⟨w6.heap.size, 0, none⟩ (.int .i64 (wrap64 (sd + 1)))).setCell ⟨b0, z, none⟩ (.int .i64 (wrap64 (sd + 1)))) ∧ BkI wB b0 w6.heap.size p.length p.length (depF p i, (-1)) (pre ++ [⟨(ix, z), hz⟩]) ((Wx.setCell ⟨w6.heap.size, 0, none⟩ (.int .i64 (wrap64 (sd + 1)))).setCell ⟨b0, z, none⟩ (.int .i64 (wrap64 (sd + 1))))) := Lib.hid (by
            refine ⟨((KeepsOthers.setCell _ _ _).trans (KeepsOthers.setCell _ _ _)).from _, fun hF => hF.two (a1 := ⟨w6.heap.size, 0, none⟩) (a2 := ⟨b0, z, none⟩) k1 k2 HPB.out.far _ _, ?_⟩
            unfold BkI
            rw [List.map_append, List.map_cons, List.map_nil, backD_snoc, HSl.out, HSd.out]
            refine ⟨(ht.set (Or.inr rfl) _).set (Or.inl rfl) _, r1.far (fun e => n0 e.symm) _, ?_, by rw [List.length_set]; exact k3⟩
            have r5 := r3.set z (.int .i64 (wrap64 (sd + 1)))
            have e5 : ((iV sl).toArray).setIfInBounds z (.int .i64 (wrap64 (sd + 1))) = (iV (sl.set z (wrap64 (sd + 1)))).toArray := by simp [iV, List.map_set]
            rw [e5] at r5
            exact r5)
          have s0 := k1.cell 0
          have s1 := k1.thaw 0
          have s2 := k1.lt
          have s3 := r1.cell 0
          have s4 := r1.lt
          have s5 := r2.cell 0
          have s6 := r2.lt
          have s7 := r3.cell z
          have s8 := r3.thaw z
          have s9 := r3.lt
          have hzl : z < sl.length := by omega
          have hzi : (z : Int) < (p.length : Int) := by omega
          simp only [List.getElem?_toArray, List.getElem?_cons_zero] at s0 s3 s5
          rw [show ((iV sl).toArray)[z]? = some (.int .i64 sl[z]) from by simp [iV, hzl]] at s7
          clear ht k1 k2 k3 kg r1 r2 r3
          gi_wp2
          exact HF.out
        case done =>
          rintro D ys Wd hDD rfl hk hK
          have HDn := Lib.hid (HPB.out.done hfl hk hDD hK)
          have HST : Hid (stepD p (depF p i) (i : Int) = (backD (depF p i, (-1)) (xsR fw)).1) := Lib.hid (by unfold stepD; rw [HSt.out, HFW.out])
          clear hk hK
          gi_wp2
          refine ⟨⟨i + 1, _, _, _, _, _, _, _, _, _, _, _, _, _, _, _, _, _, _, _, _, _, _, _, _, _, _, _, _, _, _, _, _, rfl, by omega, ?_, HDn.out.2⟩, ?_⟩
          · rw [depF_succ, HST.out]
            exact HDn.out.1
          · show p.length - (intOf (Value.int .i64 ((i : Int) + 1))).toNat < p.length - (intOf (Value.int .i64 (i : Int))).toNat
            simp only [intOf]
            omega
        case stop =>
          rintro D c pre Wd _ _ h _
          exact h.elim
    · obtain rfl : i = p.length := by omega
      have t0 := hD.ptr.cell 0
      simp only [List.getElem?_toArray, List.getElem?_cons_zero] at t0
      have e0 : decide ((p.length : Int) < (p.length : Int)) = false := decide_eq_false (by omega)
      gi_wp2
      refine marks_leave (w := w) (fun W' => Grew w W' ∧ Blok W' b0 3 (iV (depF p p.length)).toArray) ?_ ?_ ds _ HM.out ⟨HD.out.grew, HD.out.row⟩
      · rintro W' D hD hk ⟨hg, hb⟩
        exact ⟨hg.grown (grownBy_putObj' W' D _) (fun k e => by cases e; exact hD), hb.put hk rfl _⟩
      · rintro W' ⟨hg, hb⟩
        exact ⟨_, results_tmp rfl _ _ _, b0, rfl, hg, HD.out.lowb, HD.out.len, hb⟩
end Go.Proofs.Ytpdkacfhnmfmaaa

/- Layer 23: the order from the root on, by the program: how many nodes it has. Condition: fewer than twenty nodes, a tree. -/
namespace Go.Proofs.Ytpdkacfhnmfmaaa
open Go.RowKit Go.Shelf Go.Sort
attribute [local go_sem] more_cell more_frozen more_more more_setCell more_of_drew more_of_drewN lt_more le_more past_cell past_cell2 past_frozen past_frozen2 past_setCell past_setCell2 mid_cell mid_frozen mid_setCell
attribute [local go_sem ↓] Go.wp_at_zero Go.wp_at_succ

theorem grew_putRow {α : Type} [Inhabited α] {enc : α → Value} {w wr : World} {blk q : Nat} {d : Array α} (h : Grew w wr) (hb : w.heap.size ≤ blk) : Grew w ((putRow enc wr blk 0 d).drewN q) := by
  have k := h.below
  have h2 : Below w.heap.size w (putRow enc wr blk 0 d) := ⟨k.os, k.tape, k.output, by rw [size_putRow]; exact k.size, fun i hi => by
    have hne : blk ≠ i := by omega
    rw [← k.block i hi]
    simp [putRow, mapBlock, Array.getElem?_modify, hne]⟩
  exact (Grew.of_below h2).drewN q
/-- The numbers up to i are laid. -/
structure DnS (w : World) (g b0 bo n : Nat) (ds : List Int) (i : Nat) (wr : World) : Prop where
  grew : Grew w wr
  ptr : Blok wr g 25 #[.slice (some ⟨b0, 0, none⟩) n n]
  dep : Blok wr b0 3 (iV ds).toArray
  out : ∃ cur : List Value, Blok wr bo 3 cur.toArray ∧ cur.length = n ∧ ∀ j, j < i → cur[j]? = some (.int .i64 (j : Int))
  low : w.heap.size ≤ bo
  ne : b0 ≠ bo
theorem DnS.neg {w wr : World} {g b0 bo n : Nat} {ds : List Int} {i : Nat} (h : DnS w g b0 bo n ds i wr) : g ≠ bo := by
  obtain ⟨cur, h1, _⟩ := h.out
  exact h.ptr.ne h1 neSI
theorem DnS.step {w wr : World} {g b0 bo n : Nat} {ds : List Int} {i : Nat} (h : DnS w g b0 bo n ds i wr) (hi : i < n) : DnS w g b0 bo n ds (i + 1) (wr.setCell ⟨bo, i, none⟩ (.int .i64 (i : Int))) := by
  have hn := h.neg
  obtain ⟨cur, h1, h2, h3⟩ := h.out
  refine ⟨h.grew.setCell (a := ⟨bo, i, none⟩) h.low _, h.ptr.far hn _, h.dep.far h.ne _, ⟨cur.set i (.int .i64 (i : Int)), by simpa using h1.set i (.int .i64 (i : Int)), by rw [List.length_set]; exact h2, fun j hj => ?_⟩, h.low, h.ne⟩
  rw [List.getElem?_set]
  by_cases e : i = j
  · subst e
    rw [if_pos rfl, if_pos (by omega)]
  · rw [if_neg e]
    exact h3 j (by omega)
theorem DnS.holds {w wr : World} {g b0 bo n : Nat} [Inhabited (Fin n)] {ds : List Int} (h : DnS w g b0 bo n ds n wr) : Holds (encF n) wr bo 0 (Array.ofFn (fun j : Fin n => j)) := by
  intro j hj
  obtain ⟨cur, h1, h2, h3⟩ := h.out
  rw [Array.size_ofFn] at hj
  have e : (Array.ofFn (fun j : Fin n => j))[j]! = ⟨j, hj⟩ := by
    rw [getElem!_pos _ j (by rw [Array.size_ofFn]; exact hj)]
    simp
  rw [e, Nat.zero_add]
  refine ⟨?_, h1.thaw j⟩
  rw [h1.cell j, List.getElem?_toArray, h3 j hj]
  rfl
set_option maxHeartbeats 2000000 in
set_option maxRecDepth 100000 in
theorem down23_len (p : List Int) (n : Nat) (hp : p.length = n) (h1 : 1 ≤ n) (hn : n < 20) (htr : treeB p = true) (A : Option Addr) (k : Nat) (w : World) (rp : Row w A (iV p)) :
    Calls Try.prog 19 #[.slice A n k] w fun e w' => ∃ B c, e = .returned (.slice B n c) ∧ Grew w w' := by
  haveI : Inhabited (Fin n) := ⟨⟨0, h1⟩⟩
  obtain ⟨A2, k2, hT, rT⟩ := tree23_any p n hp (by omega) A k w rp
  have hend := held_end p
  rw [htr] at hT rT hend
  have hend' : ∀ i, ¬ (0 ≤ endN p p.length i ∧ endN p p.length i < p.length) := hend
  have rT' : Row w A2 (iV p) := rT
  have hT' : ∀ W, Grew w W → Gives Try.prog 40 #[.slice A n k] W (.slice A2 n k2) := fun W hW => by
    have h := hT W hW
    rw [show (heldL true p).length = n from hp] at h
    exact h
  have HT := Lib.hid hT'
  have HDe : Hid (∀ W, Grew w W → Calls Try.prog 42 #[.slice A2 n k2] W fun e w' => ∃ b0 : Nat, e = .returned (.slice (some ⟨b0, 0, none⟩) n n) ∧ Grew W w' ∧ W.heap.size ≤ b0 ∧ (depF p n).length = n ∧ Blok w' b0 3 (iV (depF p n)).toArray) := Lib.hid fun W hW => by
    have h := callsIn_wide.1 (depths_in 9 (by decide) p (by omega) A2 k2 hend' W (rT'.grew hW))
    rw [hp] at h
    exact h
  clear hT rT hend hend' rT' hT' rp
  obtain ⟨j0, hj, hj0, hj1, hj2⟩ := info_parts infoI
  have HJ := Lib.hid hj
  have HJ0 := Lib.hid hj0
  have HJ1 := Lib.hid hj1
  have HJ2 := Lib.hid hj2
  clear hj hj0 hj1 hj2
  generalize depF p n = ds at *
  have HN1 := Lib.hid h1
  have HN := Lib.hid hn
  go_enter Try.func19, Try.ntmps19
  go_wp2_with (first | (go_at_call 40; (with_reducible refine (HT.out _ (Grew.refl w)).grows.mono ?_); rintro e w1 ⟨rfl, hg1⟩; have HG1 := Lib.hid hg1; clear hg1) | (go_at_call 42; (with_reducible refine (HDe.out _ HG1.out).mono ?_); rintro e w2 ⟨b0, rfl, hg2, hb2, hl2, hd2⟩; have HG2 := Lib.hid (HG1.out.trans hg2); have HB2 := Lib.hid hb2; have HL2 := Lib.hid hl2; have HD2 := Lib.hid hd2; clear hg2 hb2 hl2 hd2) | (at_make; refine wpList_make_row _ rfl _ _ 25 rfl 3 j0 (.int .i64 0) Try.underlying25 HJ.out HJ0.out HJ1.out rfl _ _ n rfl rfl (by rw [HJ2.out]; omega) (by omega) ?_))
  have HS : Hid (DnS w w2.heap.size b0 (w2.heap.size + 1) n ds 0 ((w2.alloc (Obj.cells #[Value.slice (some ⟨b0, 0, none⟩) n n] 25)).alloc (Obj.cells (madeCells #[Value.int IntKind.i64 0] n) 3))) := Lib.hid (by
    have hl := HD2.out.lt
    have hg := HG2.out.size
    refine ⟨(HG2.out.alloc _).alloc _, (Blok.new _ _ _ _ rfl).alloc _, (HD2.out.alloc _).alloc _, ⟨(madeCells #[Value.int IntKind.i64 0] n).toList, ?_, by simp [madeCells], fun j hj => absurd hj (Nat.not_lt_zero _)⟩, by omega, by omega⟩
    rw [Array.toArray_toList]
    exact Blok.new _ _ _ _ (by rw [World.size_alloc]))
  clear HT HDe HG1 HG2 HB2 HD2 HJ HJ0 HJ1 HJ2
  generalize (w2.alloc (Obj.cells #[Value.slice (some ⟨b0, 0, none⟩) n n] 25)).alloc (Obj.cells (madeCells #[Value.int IntKind.i64 0] n) 3) = W4 at *
  obtain ⟨bo, hbo⟩ : ∃ bo, w2.heap.size + 1 = bo := ⟨_, rfl⟩
  rw [hbo] at HS ⊢
  clear hbo
  generalize w2.heap.size = g at *
  go_loopw [15] (fun x wr => ∃ i : Nat, x = .int .i64 (i : Int) ∧ i ≤ n ∧ DnS w g b0 bo n ds i wr) (fun x _ => n - (intOf x).toNat)
  case atStart => exact ⟨0, rfl, Nat.zero_le _, HS.out⟩
  case round =>
    obtain ⟨i, rfl, hi, hS⟩ := hrel
    have HSi := Lib.hid hS
    by_cases hlt : i < n
    · have e0 : decide ((i : Int) < (n : Int)) = true := decide_eq_true (by omega)
      have hin : (i : Int) < (n : Int) := by omega
      obtain ⟨cur, h1, h2, h3⟩ := hS.out
      obtain ⟨x, hx⟩ : ∃ x, wr.cell? ⟨bo, i, none⟩ = some x := ⟨_, (h1.cell i).trans (by rw [List.getElem?_toArray]; exact List.getElem?_eq_getElem (by omega))⟩
      have t1 := h1.thaw i
      have t2 := h1.lt
      clear h1 h2 h3 hS
      go_wp2
      go_roundw
      case rel => exact ⟨i + 1, rfl, by omega, HSi.out.step hlt⟩
      case measure => simp [intOf]; omega
    · obtain rfl : i = n := by omega
      have e0 : decide ((i : Int) < (i : Int)) = false := decide_eq_false (by omega)
      have HR : Hid (CmpReads Try.prog 44 #[.pointer (some ⟨g, 0, none⟩)] (encF i) (cfD i ds) bo 0 i wr) := Lib.hid (down1_reads i g (some ⟨b0, 0, none⟩) i ds bo wr hS.ptr.lt hS.neg (by have := hS.ptr.cell 0; simpa using this) fun j hj => ⟨b0, 0, rfl, hS.dep.lt, hS.ne, by
        have hjl : j < ds.length := by rw [HL2.out]; exact hj
        rw [Nat.zero_add, hS.dep.cell j]
        simp [iV, hjl]⟩)
      have HSo := Lib.hid (sortStable_any i HN.out g ds bo i (Array.ofFn (fun j : Fin i => j)) (by rw [Array.size_ofFn]) wr HR.out hS.holds)
      clear HR hS
      go_wp2_with (go_at_call 43; (with_reducible refine HSo.out.mono ?_); rintro e w5 ⟨rfl, q, hw5⟩; have HW5 := Lib.hid hw5; clear hw5)
      go_ret
      exact ⟨_, _, rfl, by rw [HW5.out]; exact grew_putRow HSi.out.grew HSi.out.low⟩
end Go.Proofs.Ytpdkacfhnmfmaaa

namespace Go.Proofs.Ytpdkacfhnmfmaaa
open Go.RowKit
attribute [local go_sem] more_cell more_frozen more_more more_setCell more_of_drew more_of_drewN lt_more le_more past_cell past_cell2 past_frozen past_frozen2 past_setCell past_setCell2 mid_cell mid_frozen mid_setCell
attribute [local go_sem ↓] Go.wp_at_zero Go.wp_at_succ

set_option maxHeartbeats 8000000 in
set_option maxRecDepth 100000 in
theorem jtreeEars_walk (h : List (List Int)) (A : Option Addr) (k : Nat) (hl : h.length ≤ 1000000000000000) (hw : wfG h) (r : Nat) (hr : r ≤ 255) (w : World) (ra : GridI (PRow w) A h) :
    Gives Try.prog 6 #[.slice A h.length k, .int .u8 (r : Int)] w (.bool true) := by
  have RA := Lib.hid ra
  have HW := Lib.hid hw
  have HMu := Lib.hid (rmuch21_any h A k hl w ra)
  clear ra hw hl
  unfold Gives
  go_enter Try.func6, Try.ntmps6
  go_wp2_with fail
  refine HMu.out.mono ?_
  rintro e w1 ⟨t, rfl, hg1, h1⟩
  have HG1 := Lib.hid hg1
  have HGood := Lib.hid h1
  clear hg1 h1 HMu
  cases t
  rotate_left
  · go_wp2_with (go_at_call 13; (with_reducible refine (live23_any _).grows.mono ?_); rintro e w5 ⟨rfl, hg5⟩; have HG5 := Lib.hid (HG1.out.trans hg5); clear hg5)
    go_ret
    exact ⟨rfl, HG5.out⟩
  obtain ⟨h12, hel⟩ := HGood.out rfl
  have hn1 : h.length ≤ 1000 := Nat.le_trans h12 (by decide)
  have hel2 : ∀ e ∈ h, e.length ≤ 1000 := fun e he => Nat.le_trans (hel e he) (by decide)
  have HAc := Lib.hid (fun W (hW : Grew w W) => acyclic22_any h h.length rfl hn1 HW.out hel A k W (RA.out.grew hW))
  have hll := leftI_len h
  have hle := earsS_le h h.length
  clear HGood
  by_cases hac : h.length - (earsS h h.length).1.length ≤ 1
  · rw [decide_eq_true (by omega)] at HAc
    have HPar := Lib.hid (fun W (hW : Grew w W) => parents22_yes h h.length rfl hn1 HW.out hel hac A k W (RA.out.grew hW))
    have R := ears_ranked hac
    have hpl : (parE h.length (earsS h h.length).1).length = h.length := parE_len _ _
    have htr := R.tree
    have hck := R.check
    obtain ⟨pl, hpe⟩ : ∃ pl, parE h.length (earsS h h.length).1 = pl := ⟨_, rfl⟩
    rw [hpe] at HPar hpl htr hck
    clear R hac hle hll hpe
    obtain ⟨n, hn⟩ : ∃ n, h.length = n := ⟨_, rfl⟩
    by_cases h0 : n = 0
    · have e0 : ((n : Int) == 0) = true := by simp [h0]
      rw [hn] at HPar HAc ⊢
      clear h0 hn h12 hn1 hpl htr hck hel hel2
      go_wp2_with (first | (go_at_call 9; (with_reducible refine (HPar.out _ HG1.out).mono ?_); rintro e w2 ⟨B2, c2, rfl, hg2, hr2⟩; have HG2 := Lib.hid (HG1.out.trans hg2); clear hg2 hr2) | (go_at_call 11; (with_reducible refine (HAc.out _ HG2.out).grows.mono ?_); rintro e w3 ⟨rfl, hg3⟩; have HG3 := Lib.hid (HG2.out.trans hg3); clear hg3) | (go_at_call 13; (with_reducible refine (live23_any _).grows.mono ?_); rintro e w5 ⟨rfl, hg5⟩; have HG5 := Lib.hid (HG3.out.trans hg5); clear hg5))
      go_ret
      exact ⟨rfl, HG5.out⟩
    · have hz0 : r % n < n := Nat.mod_lt _ (by omega)
      obtain ⟨z, hz⟩ : ∃ z, r % n = z := ⟨_, rfl⟩
      have e0 : ((n : Int) == 0) = false := by rw [beq_eq_false_iff_ne]; omega
      have hq2 : IntKind.i64.wrap ((r : Int).tmod (n : Int)) = (z : Int) := by
        rw [← Int.ofNat_tmod, hz]
        exact IntWalk.i64_in _ (by omega)
      have hq3 : (r : Int) % (n : Int) = (z : Int) := by rw [← hz]; exact (Int.natCast_emod r n).symm
      rw [hz] at hz0
      have hzp : z < pl.length := by rw [hpl, hn]; exact hz0
      have hql : (rootedL pl z).length = n := by rw [← hn, ← hpl]; exact rooted_len pl z
      have hqt := rooted_tree htr hzp
      have hqc := rooted_check htr hzp h
      rw [hck] at hqc
      have HCp : Hid (∀ W B c, Grew w W → Row W B (iV pl) → Gives Try.prog 29 #[.slice A h.length k, .slice B n c] W (.bool true)) := Lib.hid fun W B c hW hR => by
        have h1 := check23_any h HW.out hn1 hel2 pl n (hpl.trans hn) (by omega) A k B c W (RA.out.grew hW) hR
        rw [hck] at h1
        exact h1
      have HRo : Hid (∀ W B c, Row W B (iV pl) → Calls Try.prog 27 #[.slice B n c, .int .i64 (z : Int)] W (LisF W (rootedL pl z))) := Lib.hid fun W B c hR => by
        have h1 := rooted23_any pl n (hpl.trans hn) (by omega) B c (z : Int) W hR
        rw [htr] at h1
        exact h1
      generalize rootedL pl z = q at *
      have HCq : Hid (∀ W B c, Grew w W → Row W B (iV q) → Gives Try.prog 29 #[.slice A h.length k, .slice B n c] W (.bool true)) := Lib.hid fun W B c hW hR => by
        have h1 := check23_any h HW.out hn1 hel2 q n hql (by omega) A k B c W (RA.out.grew hW) hR
        rw [hqc] at h1
        exact h1
      have HHa : Hid (∀ W B c, Grew w W → Row W B (iV q) → Gives Try.prog 30 #[.slice A n k, .slice B n c] W (.bool true)) := Lib.hid fun W B c hW hR => hang23_yes h n hn (by omega) hel2 q hql hqc A k B c W (RA.out.grew hW) hR
      have HDo : Hid (∀ W B c, Row W B (iV q) → Calls Try.prog 19 #[.slice B n c] W fun e w' => ∃ B' c', e = .returned (.slice B' n c') ∧ Grew W w') := Lib.hid fun W B c hR => down23_len q n hql (by omega) (by omega) hqt B c W hR
      rw [hn] at HCp HCq HPar HAc ⊢
      have e9 : ((n : Int) == (n : Int)) = true := by simp
      have hr9 : (r : Int) ≤ 255 := by omega
      have hne0 : ¬ (n : Int) = 0 := by omega
      clear hqt hqc hck htr hzp hpl hz0 hz hn hel hel2 h0 h12 hn1
      go_wp2_with (first | (go_at_call 9; (with_reducible refine (HPar.out _ HG1.out).mono ?_); rintro e w2 ⟨B2, c2, rfl, hg2, hr2⟩; have HG2 := Lib.hid (HG1.out.trans hg2); have HR2 := Lib.hid hr2; clear hg2 hr2) | (go_at_call 27; (with_reducible refine (HRo.out _ B2 c2 HR2.out).mono ?_); rintro e w3 ⟨Q, cQ, rfl, hg3, ht3⟩; have HG3 := Lib.hid (HG2.out.trans hg3); have HR3 := Lib.hid (HR2.out.grew hg3); have HQ := Lib.hid ht3.plain; clear hg3 ht3) | (go_at_call 29; (with_reducible refine (HCp.out _ B2 c2 HG3.out HR3.out).grows.mono ?_); rintro e w4 ⟨rfl, hg4⟩; have HG4 := Lib.hid (HG3.out.trans hg4); have HQ4 := Lib.hid (HQ.out.grew hg4); clear hg4) | (go_at_call 29; (with_reducible refine (HCq.out _ Q cQ HG4.out HQ4.out).grows.mono ?_); rintro e w5 ⟨rfl, hg5⟩; have HG5 := Lib.hid (HG4.out.trans hg5); have HQ5 := Lib.hid (HQ4.out.grew hg5); clear hg5) | (go_at_call 30; (with_reducible refine (HHa.out _ Q cQ HG5.out HQ5.out).grows.mono ?_); rintro e w6 ⟨rfl, hg6⟩; have HG6 := Lib.hid (HG5.out.trans hg6); have HQ6 := Lib.hid (HQ5.out.grew hg6); clear hg6) | (go_at_call 19; (with_reducible refine (HDo.out _ Q cQ HQ6.out).mono ?_); rintro e w7 ⟨B7, c7, rfl, hg7⟩; have HG7 := Lib.hid (HG6.out.trans hg7); clear hg7) | (go_at_call 13; (with_reducible refine (live23_any _).grows.mono ?_); rintro e w8 ⟨rfl, hg8⟩; have HG8 := Lib.hid (HG7.out.trans hg8); clear hg8))
      go_ret
      exact ⟨rfl, HG8.out⟩
  · rw [decide_eq_false (by omega)] at HAc
    have HPar := Lib.hid (fun W (hW : Grew w W) => parents22_no h h.length rfl hn1 HW.out hel (by omega) A k W (RA.out.grew hW))
    clear hac hle hll
    go_wp2_with (first | (go_at_call 9; (with_reducible refine (HPar.out _ HG1.out).grows.mono ?_); rintro e w2 ⟨rfl, hg2⟩; have HG2 := Lib.hid (HG1.out.trans hg2); clear hg2) | (go_at_call 11; (with_reducible refine (HAc.out _ HG2.out).grows.mono ?_); rintro e w3 ⟨rfl, hg3⟩; have HG3 := Lib.hid (HG2.out.trans hg3); clear hg3) | (go_at_call 13; (with_reducible refine (live23_any _).grows.mono ?_); rintro e w5 ⟨rfl, hg5⟩; have HG5 := Lib.hid (HG3.out.trans hg5); clear hg5))
    go_ret
    exact ⟨rfl, HG5.out⟩
theorem jtreeEars_all (h : List (List Int)) (A : Option Addr) (k : Nat) (hl : h.length ≤ 1000000000000000) (hw : wfG h) (r : Int) (hr : (Lit.int .u8 r).wf = true) (w : World) (ra : GridI (PRow w) A h) :
    Gives Try.prog 6 #[.slice A h.length k, .int .u8 r] w (.bool true) := by
  have hb : 0 ≤ r ∧ r < 256 := by
    have h1 : IntKind.u8.min ≤ r ∧ r ≤ IntKind.u8.max := by simpa [Lit.wf] using hr
    have h2 : IntKind.u8.min = 0 := rfl
    have h3 : IntKind.u8.max = 255 := rfl
    omega
  obtain ⟨z, rfl⟩ : ∃ z : Nat, r = (z : Int) := ⟨r.toNat, by omega⟩
  exact jtreeEars_walk h A k hl hw z (by omega) w ra
end Go.Proofs.Ytpdkacfhnmfmaaa
