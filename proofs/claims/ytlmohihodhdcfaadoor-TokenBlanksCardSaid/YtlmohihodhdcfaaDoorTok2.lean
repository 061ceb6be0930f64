/- Layer 7: words and numbers at the beginning of a text. Condition: a text of no more than a million bytes. -/
import Derived.Test.YtlmohihodhdcfaaDoorTok1
import Derived.Test.YtlmohihodhdcfaaDoorRel
import Derived.Test.YtlmohihodhdcfaaDoorHeap
namespace Go.Proofs.YtlmohihodhdcfaaDoor
open Go.RowKit
attribute [local go_sem] more_cell more_frozen more_more more_setCell more_of_drew more_of_drewN lt_more le_more past_cell past_cell2 past_frozen past_frozen2 past_setCell past_setCell2 mid_cell mid_frozen mid_setCell
attribute [local go_sem ↓] Go.wp_at_zero Go.wp_at_succ

def trV (r : Tr) : Value := .tuple #[.agg #[.int .i64 r.k, .string ⟨r.t.toArray⟩, .int .i64 r.i, .int .i64 0], .int .i64 r.n, .int .i64 r.e]
theorem ext_take (s : ByteArray) (n : Nat) : s.extract 0 n = ⟨((bl s).take n).toArray⟩ := bl_ext (by rw [bl_extract, bl_mk ((bl s).take n), List.drop_zero, Nat.sub_zero])
theorem ext_drop (s : ByteArray) (a : Nat) : s.extract a s.size = ⟨((bl s).drop a).toArray⟩ := bl_ext (by rw [bl_extract, bl_mk ((bl s).drop a), List.take_of_length_le]; rw [List.length_drop, bl_len]; exact Nat.le_refl _)
theorem tk_in {w : World} {g : Nat} {a0 a1 a2 a3 : Value} (h : Blok w g 33 #[a0, a1, a2, a3]) : g < w.heap.size ∧ w.cell? ⟨g, 0, none⟩ = some a0 ∧ w.cell? ⟨g, 1, none⟩ = some a1 ∧ w.cell? ⟨g, 2, none⟩ = some a2 ∧ w.cell? ⟨g, 3, none⟩ = some a3 ∧ w.frozen? ⟨g, 0, none⟩ = false ∧ w.frozen? ⟨g, 1, none⟩ = false ∧ w.frozen? ⟨g, 2, none⟩ = false ∧ w.frozen? ⟨g, 3, none⟩ = false :=
  ⟨h.lt, h.cell 0, h.cell 1, h.cell 2, h.cell 3, h.thaw 0, h.thaw 1, h.thaw 2, h.thaw 3⟩
theorem tk_set {w : World} {g : Nat} {a0 a1 a2 a3 : Value} (h : Blok w g 33 #[a0, a1, a2, a3]) (b0 b1 b2 b3 : Value) : Blok ((((w.setCell ⟨g, 0, none⟩ b0).setCell ⟨g, 1, none⟩ b1).setCell ⟨g, 2, none⟩ b2).setCell ⟨g, 3, none⟩ b3) g 33 #[b0, b1, b2, b3] := by
  have := (((h.set 0 b0).set 1 b1).set 2 b2).set 3 b3
  simpa using this
theorem grew_tk {u w : World} (h : Grew u w) {g : Nat} (hg : u.heap.size ≤ g) (b0 b1 b2 b3 : Value) : Grew u ((((w.setCell ⟨g, 0, none⟩ b0).setCell ⟨g, 1, none⟩ b1).setCell ⟨g, 2, none⟩ b2).setCell ⟨g, 3, none⟩ b3) :=
  Grew.setCell (Grew.setCell (Grew.setCell (Grew.setCell h hg _) hg _) hg _) hg _
set_option maxHeartbeats 1000000 in
set_option maxRecDepth 100000 in
theorem word7_any (s : ByteArray) (w : World) : Gives Tryd.prog 30 #[.string s] w (trV (wordT (bl s))) := by
  have HR := Lib.hid (run_named s)
  have hle := runP_le namedB (bl s)
  rw [bl_len] at hle
  unfold wordT
  have HX := Lib.hid (ext_take s)
  generalize runP namedB (bl s) = n at *
  unfold Gives
  by_cases hn : 32 < n
  · rw [if_pos hn]
    clear HX
    unfold trV errT
    go_enter Tryd.func30, Tryd.ntmps30
    go_wp2_with ((go_at_call 21; (with_reducible refine (HR.out _).grows.mono ?_); rintro e w2 ⟨rfl, hg2⟩; have HG := Lib.hid (((Grew.refl w).alloc _).trans hg2); have HB : Hid (Blok w2 w.heap.size 33 #[.int .i64 0, .string ⟨#[]⟩, .int .i64 0, .int .i64 0]) := Lib.hid ((Blok.new _ _ _ _ rfl).grew hg2); obtain ⟨z0, z1, z2, z3, z4, z5, z6, z7, z8⟩ := tk_in HB.out; clear hg2))
    have hb := tk_set HB.out (.int .i64 0) (.string ⟨#[]⟩) (.int .i64 0) (.int .i64 0)
    obtain ⟨_, r0, r1, r2, r3, _, _, _, _⟩ := tk_in hb
    exact bodyPost_ret (v := .tuple #[.agg #[.int .i64 0, .string ⟨#[]⟩, .int .i64 0, .int .i64 0], .int .i64 0, .int .i64 1]) (by simp [results, Tryd.results30, go_sem, r0, r1, r2, r3]) rfl ⟨rfl, grew_tk HG.out (Nat.le_refl _) _ _ _ _⟩
  · rw [if_neg hn]
    unfold trV
    simp only
    rw [← HX.out]
    clear HX
    have hn' : n ≤ 32 := by omega
    have HW := Lib.hid (word_any (s.extract 0 n))
    clear hn
    cases hw : wordB (s.extract 0 n)
    · rw [hw] at HW
      rw [if_neg (by simp)]
      clear hw
      go_enter Tryd.func30, Tryd.ntmps30
      go_wp2_with (first | (go_at_call 21; (with_reducible refine (HR.out _).grows.mono ?_); rintro e w2 ⟨rfl, hg2⟩; have HG := Lib.hid (((Grew.refl w).alloc _).trans hg2); have HB : Hid (Blok w2 w.heap.size 33 #[.int .i64 0, .string ⟨#[]⟩, .int .i64 0, .int .i64 0]) := Lib.hid ((Blok.new _ _ _ _ rfl).grew hg2); obtain ⟨z0, z1, z2, z3, z4, z5, z6, z7, z8⟩ := tk_in HB.out; clear hg2) | (go_at_call 36; (with_reducible refine (HW.out _).mono ?_); rintro e w3 ⟨rfl, rfl⟩))
      have hb := tk_set HB.out (.int .i64 1) (.string (s.extract 0 n)) (.int .i64 0) (.int .i64 0)
      obtain ⟨_, r0, r1, r2, r3, _, _, _, _⟩ := tk_in hb
      exact bodyPost_ret (v := .tuple #[.agg #[.int .i64 1, .string (s.extract 0 n), .int .i64 0, .int .i64 0], .int .i64 n, .int .i64 0]) (by simp [results, Tryd.results30, go_sem, r0, r1, r2, r3]) rfl ⟨rfl, grew_tk HG.out (Nat.le_refl _) _ _ _ _⟩
    · rw [hw] at HW
      rw [if_pos rfl]
      clear hw
      go_enter Tryd.func30, Tryd.ntmps30
      go_wp2_with (first | (go_at_call 21; (with_reducible refine (HR.out _).grows.mono ?_); rintro e w2 ⟨rfl, hg2⟩; have HG := Lib.hid (((Grew.refl w).alloc _).trans hg2); have HB : Hid (Blok w2 w.heap.size 33 #[.int .i64 0, .string ⟨#[]⟩, .int .i64 0, .int .i64 0]) := Lib.hid ((Blok.new _ _ _ _ rfl).grew hg2); obtain ⟨z0, z1, z2, z3, z4, z5, z6, z7, z8⟩ := tk_in HB.out; clear hg2) | (go_at_call 36; (with_reducible refine (HW.out _).mono ?_); rintro e w3 ⟨rfl, rfl⟩))
      have hb := tk_set HB.out (.int .i64 2) (.string (s.extract 0 n)) (.int .i64 0) (.int .i64 0)
      obtain ⟨_, r0, r1, r2, r3, _, _, _, _⟩ := tk_in hb
      exact bodyPost_ret (v := .tuple #[.agg #[.int .i64 2, .string (s.extract 0 n), .int .i64 0, .int .i64 0], .int .i64 n, .int .i64 0]) (by simp [results, Tryd.results30, go_sem, r0, r1, r2, r3]) rfl ⟨rfl, grew_tk HG.out (Nat.le_refl _) _ _ _ _⟩
end Go.Proofs.YtlmohihodhdcfaaDoor
