/- Layer 33: the document's example of readiness, by the program. No condition. -/
import Derived.Test.YtfdjnhnchibejaaRdy5
namespace Go.Proofs.Ytfdjnhnchibejaa
open Go.RowKit
attribute [local go_sem] more_cell more_frozen more_more more_setCell more_of_drew more_of_drewN lt_more le_more past_cell past_cell2 past_frozen past_frozen2 past_setCell past_setCell2 mid_cell mid_frozen mid_setCell
attribute [local go_sem ↓] Go.wp_at_zero Go.wp_at_succ

def ndL : List (List Int) := [[1, 2], [2], []]
theorem ndL_ord : (ordS ndL 3).1 = [2, 1, 0] := by decide
theorem ndL_lev : levI ndL [2, 1, 0] 0 = 3 := by decide
theorem ndL_wf : wfG ndL := by
  intro e he x hx
  unfold ndL at he
  simp only [List.mem_cons, List.not_mem_nil, or_false] at he
  rcases he with rfl | rfl | rfl
  · simp only [List.mem_cons, List.not_mem_nil, or_false] at hx
    rcases hx with rfl | rfl
    · exact wfI_nat (n := 1) (by omega)
    · exact wfI_nat (n := 2) (by omega)
  · simp only [List.mem_cons, List.not_mem_nil, or_false] at hx
    subst hx
    exact wfI_nat (n := 2) (by omega)
  · cases hx
theorem ndL_len : ∀ e ∈ ndL, e.length ≤ 30 := by decide
def nilS : Osl := ⟨none, 0, 0⟩
def nilO : Oth := ⟨nilS, nilS, nilS, nilS, nilS⟩
def pcsL (h : Nat) : List (List Value) := [[.slice none 0 0, .slice none 0 0, .slice (some ⟨h, 0, none⟩) 2 2], [.slice none 0 0, .slice none 0 0, .slice (some ⟨h + 1, 0, none⟩) 1 1], [.slice none 0 0, .slice none 0 0, .slice none 0 0]]
theorem pipsL {w : World} {h : Nat} {A : Option Addr} (r0 : Row w (some ⟨h, 0, none⟩) [.int .i64 1, .int .i64 2]) (r1 : Row w (some ⟨h + 1, 0, none⟩) [.int .i64 2]) (r2 : Row w A (pcsL h).flatten) : PipsR w A ndL := by
  refine ⟨pcsL h, ⟨rfl, fun i x cs hx hc => ?_⟩, r2⟩
  match i, hx, hc with
  | 0, hx, hc => cases hx; cases hc; exact ⟨⟨nilS, nilS, _, _, rfl, r0⟩, rfl⟩
  | 1, hx, hc => cases hx; cases hc; exact ⟨⟨nilS, nilS, _, _, rfl, r1⟩, rfl⟩
  | 2, hx, hc => cases hx; cases hc; exact ⟨⟨nilS, nilS, _, _, rfl, Or.inl rfl⟩, rfl⟩
  | k + 3, hx, hc => simp [ndL] at hx
theorem live33_any (w : World) : Gives Try.prog 95 #[] w (.bool true) := by
  obtain ⟨wl, hwl⟩ : ∃ wl : World, ((((w.alloc (.cells #[.int .i64 1, .int .i64 2] 3)).alloc (.cells #[.int .i64 2] 3)).alloc (.cells #[.slice none 0 0, .slice none 0 0, .slice (some ⟨w.heap.size, 0, none⟩) 2 2, .slice none 0 0, .slice none 0 0, .slice (some ⟨w.heap.size + 1, 0, none⟩) 1 1, .slice none 0 0, .slice none 0 0, .slice none 0 0] 173)).alloc (.cells #[.slice none 0 0, .slice none 0 0, .slice (some ⟨w.heap.size + 1 + 1, 0, none⟩) 3 3, .slice none 0 0, .slice none 0 0, .slice none 0 0] 117)) = wl := ⟨_, rfl⟩
  have HG : Hid (Grew w wl) := Lib.hid (by
    rw [← hwl]
    exact ((((Grew.refl w).alloc _).alloc _).alloc _).alloc _)
  have HB : Hid (Blok wl (w.heap.size + 1 + 1 + 1) 117 (plC nilO (some ⟨w.heap.size + 1 + 1, 0, none⟩) 3 3)) := Lib.hid (by
    rw [← hwl]
    exact Blok.new _ _ _ _ (by simp only [World.size_alloc]))
  have HP : Hid (PipsR wl (some ⟨w.heap.size + 1 + 1, 0, none⟩) ndL) := Lib.hid (by
    rw [← hwl]
    refine pipsL (h := w.heap.size) ?_ ?_ ?_
    · exact (row_new w _ _ #[.int .i64 1, .int .i64 2] rfl).grew ((((Grew.refl _).alloc _).alloc _).alloc _)
    · exact (row_new (w.alloc _) _ _ #[.int .i64 2] (by simp only [World.size_alloc])).grew (((Grew.refl _).alloc _).alloc _)
    · exact (row_new ((w.alloc _).alloc _) _ _ #[_, _, _, _, _, _, _, _, _] (by simp only [World.size_alloc])).grew ((Grew.refl _).alloc _))
  have HAc : Hid (∀ W, Grew wl W → Gives Try.prog 102 #[plV nilO (some ⟨w.heap.size + 1 + 1, 0, none⟩) 3 3] W (.bool true)) := Lib.hid fun W hW => by
    have h := acyclic33_any nilO ndL 3 rfl (by omega) ndL_wf ndL_len (some ⟨w.heap.size + 1 + 1, 0, none⟩) 3 W (HP.out.grew hW)
    rw [ndL_ord] at h
    exact h
  have HLe : Hid (∀ W, Grew wl W → Gives Try.prog 103 #[plV nilO (some ⟨w.heap.size + 1 + 1, 0, none⟩) 3 3, .int .i64 0] W (.int .i64 3)) := Lib.hid fun W hW => by
    have h := level33_any nilO ndL 3 rfl (by omega) ndL_wf ndL_len (some ⟨w.heap.size + 1 + 1, 0, none⟩) 3 0 W (HP.out.grew hW)
    rw [ndL_ord, ndL_lev] at h
    exact h
  have HB0 : Hid (∀ W, Gives Try.prog 106 #[.int .i64 0, .int .i64 5] W (.int .i64 1)) := Lib.hid fun W => bat33_any 0 5 (wfI_nat (n := 0) (by omega)) (wfI_nat (n := 5) (by omega)) W
  have HB1 : Hid (∀ W, Gives Try.prog 106 #[.int .i64 11, .int .i64 5] W (.int .i64 3)) := Lib.hid fun W => bat33_any 11 5 (wfI_nat (n := 11) (by omega)) (wfI_nat (n := 5) (by omega)) W
  have HW := Lib.hid hwl
  clear hwl
  unfold plV plC at HAc HLe
  unfold Gives
  go_enter Try.func95, Try.ntmps95
  go_upto_region 2 with fail
  rw [HW.out]
  clear HW
  generalize w.heap.size = h at *
  go_wp2_with (first
    | (go_at_call 106; (with_reducible refine (HB0.out _).grows.mono ?_); rintro e w2 ⟨rfl, hg2⟩; have G2 := Lib.hid hg2; clear hg2)
    | (go_at_call 106; (with_reducible refine (HB1.out _).grows.mono ?_); rintro e w3 ⟨rfl, hg3⟩; have G3 := Lib.hid (G2.out.trans hg3); clear hg3; obtain ⟨b0, d0, d1, b1, d3, d4, d5⟩ := boxP (HB.out.grew G3.out))
    | (go_at_call 102; (with_reducible refine (HAc.out _ G3.out).grows.mono ?_); rintro e w4 ⟨rfl, hg4⟩; have G4 := Lib.hid (G3.out.trans hg4); clear hg4 b0 d0 d1 b1 d3 d4 d5; obtain ⟨b0, d0, d1, b1, d3, d4, d5⟩ := boxP (HB.out.grew G4.out))
    | (go_at_call 103; (with_reducible refine (HLe.out _ G4.out).grows.mono ?_); rintro e w5 ⟨rfl, hg5⟩; have G5 := Lib.hid (G4.out.trans hg5); clear hg5))
  go_ret
  exact ⟨rfl, HG.out.trans G5.out⟩
end Go.Proofs.Ytfdjnhnchibejaa
