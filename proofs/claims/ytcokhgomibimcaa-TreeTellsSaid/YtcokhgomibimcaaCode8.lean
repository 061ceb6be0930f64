/- Layer 39: numbers are read. -/
import Derived.Test.YtcokhgomibimcaaCode7
import Derived.Test.YtcokhgomibimcaaApp2
namespace Go.Proofs.Ytcokhgomibimcaa
open Go.RowKit
attribute [local go_sem] more_cell more_frozen more_more more_setCell more_of_drew more_of_drewN lt_more le_more past_cell past_cell2 past_frozen past_frozen2 past_setCell past_setCell2 mid_cell mid_frozen mid_setCell
attribute [local go_sem ↓] Go.wp_at_zero Go.wp_at_succ

theorem LeftIs.grown {u w w' : World} {g : Nat} {l : List Nat} {f : Bool} {row : Option Nat} (h : LeftIs u w g l f) (k : w.grownBy w' row) (hr : ∀ i, row = some i → g < i) : LeftIs u w' g l f := by
  obtain ⟨A, m, h1, h2, h3, h4, h5⟩ := h
  exact ⟨A, m, h1, h2.grown k (fun e => by have := hr g e; omega), h3, h4, h5.grown k (fun i hi => by have := hr i hi; omega)⟩
theorem LeftIs.alloc {u w : World} {g : Nat} {l : List Nat} {f : Bool} (h : LeftIs u w g l f) (o : Obj) : LeftIs u (w.alloc o) g l f := by
  obtain ⟨A, m, h1, h2, h3, h4, h5⟩ := h
  exact ⟨A, m, h1, h2.alloc o, h3, h4, h5.alloc o⟩
theorem LeftIs.lt {u w : World} {g : Nat} {l : List Nat} {f : Bool} (h : LeftIs u w g l f) : g < w.heap.size := by
  obtain ⟨A, m, h1, h2, _⟩ := h
  exact h2.lt
/-- Numbers are read, and lie above what was there. -/
def IntsT (u w : World) (g : Nat) (l : List Int) (s : List Nat × Bool) (e : Ending) (w' : World) : Prop := ∃ A c, e = .returned (.slice A l.length c) ∧ w'.ownsRow w.heap.size 3 1 (.slice A l.length c) l.length (iV l) ∧ LeftIs u w' g s.1 s.2 ∧ Turns w w' g
/-- While they are read. -/
def IntsAt (u w : World) (g : Nat) (k : Nat) (s : List Nat × Bool) (v i : Value) (wr : World) : Prop :=
  ∃ (j : Nat) (A : Option Addr) (c : Nat), j ≤ k ∧ i = .int .i64 j ∧ v = .slice A j c ∧ wr.ownsRow w.heap.size 3 1 (.slice A j c) j (iV (numsS j s).1) ∧ LeftIs u wr g (numsS j s).2.1 (numsS j s).2.2 ∧ Turns w wr g
set_option maxRecDepth 100000 in
theorem ints_to (u : World) (g : Nat) (s : List Nat × Bool) (hl : s.1.length ≤ 1000000) (hx : bytesOk s.1) (w : World) (hg : LeftIs u w g s.1 s.2) :
    Calls Try.prog 100 #[.pointer (some ⟨g, 0, none⟩)] w (IntsT u w g (intsS s).1 (intsS s).2) := by
  have HG := Lib.hid hg
  have hgw := hg.lt
  clear hg
  have HP : Hid (Calls Try.prog 105 #[.pointer (some ⟨g, 0, none⟩)] w (NumT u w g (cntS s).1 (cntS s).2)) := Lib.hid (count_to u g s hl hx w HG.out)
  have hcl := cntS_left s
  have HOK := Lib.hid (cntS_ok hx)
  have HI : Hid (intsS s = numsS (cntS s).1 (cntS s).2) := Lib.hid rfl
  generalize intsS s = r at *
  generalize cntS s = t at *
  obtain ⟨k, s1⟩ := t
  simp only at hcl
  obtain ⟨l1, _, l3⟩ := hcl
  have hk : k ≤ 1000000 := by omega
  have hs1 : s1.1.length ≤ 1000000 := by omega
  clear l1 l3
  go_enter Try.func100, Try.ntmps100
  go_wp2_with fail
  refine HP.out.mono ?_
  rintro e w1 ⟨rfl, h1, t1⟩
  have HL := Lib.hid h1
  have HT := Lib.hid t1
  clear h1 t1
  go_wp2_with fail
  go_loopw [3, 6] (fun v i wr => IntsAt u w g k s1 v i wr) (fun _ i _ => k - (intOf i).toNat)
  case atStart => exact ⟨0, none, 0, Nat.zero_le _, rfl, rfl, own_none _ _ _ _, HL.out, HT.out⟩
  case round =>
    obtain ⟨j, A, c, hj, rfl, rfl, ho, hL, hT⟩ := hrel
    have HO := Lib.hid ho
    have HLr := Lib.hid hL
    have HTr := Lib.hid hT
    have HN : Hid (numsS (j + 1) s1 = ((numsS j s1).1 ++ [(numS (numsS j s1).2).1], (numS (numsS j s1).2).2)) := Lib.hid rfl
    have HNum : Hid (Calls Try.prog 99 #[.pointer (some ⟨g, 0, none⟩)] wr (NumT u wr g (numS (numsS j s1).2).1 (numS (numsS j s1).2).2)) := Lib.hid (number_to u g _ (by have := (numsS_left j s1).1; omega) (numsS_ok HOK.out) wr HLr.out)
    have HS := Lib.hid hT.size
    clear ho hL hT
    by_cases h : j < k
    · generalize numS (numsS j s1).2 = nx at *
      obtain ⟨v, s2⟩ := nx
      go_wp2_with (first | (go_at_call 99; refine HNum.out.mono ?_; rintro e w2 ⟨rfl, h2, t2⟩; have HL2 := Lib.hid h2; have HT2 := Lib.hid t2; have HO2 := Lib.hid (own_turns HO.out t2 hgw); have HS2 := Lib.hid t2.size; clear h2 t2) | (at_builtin; refine wpList_appB rfl (.tmp 8) (.tmp 11) 23 3 1 rfl w.heap.size (.int .i64 0) 8 Try.underlying23 infoI rfl (by decide) (by decide) _ j _ rfl (own_alloc HO2.out _) _ 1 1 [.int .i64 v] rfl rfl (row_one _ _ _ _ rfl) (by simp; rfl) (by omega) (by have := HS.out; have := HS2.out; simp; omega) ?_; intro A4 c4 w4 ho4 hg4; have HO4 := Lib.hid ho4; have HG4 := Lib.hid hg4; clear ho4 hg4))
      have hrow : ∀ i, (Value.slice A j c).ownBlock = some i → w.heap.size ≤ i := own_base HO.out
      refine ⟨⟨j + 1, A4, c4, by omega, by go_num, rfl, ?_, ?_, ?_⟩, by simp only [intOf]; omega⟩
      · rw [HN.out, ← iV_snoc]
        exact HO4.out
      · rw [HN.out]
        exact (HL2.out.alloc _).grown HG4.out (fun i hi => by have := hrow i hi; omega)
      · exact ((HTr.out.trans HT2.out).grew ((Grew.refl _).alloc _)).grown HG4.out hrow
    · obtain rfl : j = k := by omega
      have hlen := numsS_len j s1
      have HF : Hid (IntsT u w g r.1 r.2 (.returned (.slice A j c)) wr) := Lib.hid (by
        rw [HI.out]
        refine ⟨A, c, by simp only [hlen], ?_, HLr.out, HTr.out⟩
        simp only [hlen]
        exact HO.out)
      clear hlen
      go_wp2
      go_ret
      exact HF.out
end Go.Proofs.Ytcokhgomibimcaa
