/- Layer 7: the token from a place on. Condition: a text of no more than a million bytes; the library's table of how long a search may be holds a number. -/
import Derived.Test.YtlmohihodhdcfaaDoorTok6
namespace Go.Proofs.YtlmohihodhdcfaaDoor
open Go.RowKit
attribute [local go_sem] more_cell more_frozen more_more more_setCell more_of_drew more_of_drewN lt_more le_more past_cell past_cell2 past_frozen past_frozen2 past_setCell past_setCell2 mid_cell mid_frozen mid_setCell
attribute [local go_sem ↓] Go.wp_at_zero Go.wp_at_succ

def toV (t : To) : Value := .tuple #[.agg #[.int .i64 t.k, .string ⟨t.t.toArray⟩, .int .i64 t.i, .int .i64 t.at'], .int .i64 t.next, .int .i64 t.e]
theorem clamp_max (n : Nat) (a : Int) : min (n : Int) (max 0 a) = (clampI n a : Nat) := by
  unfold clampI
  split
  · omega
  · split <;> omega
theorem hereT_eq (c : UInt8) (l : List UInt8) : hereT (c :: l) = if letterB c then wordT (c :: l) else if digitB c then numT (c :: l) else if c.toNat = 39 then textT (c :: l) else signT (c :: l) := rfl
theorem wordT_le (l : List UInt8) : (wordT l).n ≤ l.length + 2 := by
  unfold wordT
  split
  · exact Nat.zero_le _
  · have := runP_le namedB l
    show runP namedB l ≤ _
    omega
theorem numT_le (l : List UInt8) : (numT l).n ≤ l.length + 2 := by
  unfold numT
  split
  · exact Nat.zero_le _
  · have := runP_le digitB l
    show runP digitB l ≤ _
    omega
theorem unq_len {m t : List UInt8} {n : Nat} (h : unq m = some (t, n)) : n ≤ m.length := by
  obtain ⟨q1, q2, q3⟩ := unq_some _ _ (Nat.le_refl _) t n h
  have e : m.length = (qq t).length + 1 + (m.drop n).length := by
    conv => lhs; rw [q1]
    simp
    omega
  omega
theorem textT_le (l : List UInt8) : (textT l).n ≤ l.length + 2 := by
  unfold textT
  cases hu : unq (l.drop 1) with
  | none => exact Nat.zero_le _
  | some r =>
    obtain ⟨t, n⟩ := r
    have h1 := unq_len hu
    rw [List.length_drop] at h1
    show (if 65536 < t.length then errT 4 else ⟨4, t, 0, n + 1, 0⟩ : Tr).n ≤ _
    split
    · exact Nat.zero_le _
    · show n + 1 ≤ _
      omega
theorem sign1_le (a : UInt8) : (sign1 a).length ≤ 2 := by unfold sign1; split <;> simp
theorem signP_le (l : List UInt8) : (signP l).length ≤ 2 := by
  match l with
  | [] => exact Nat.zero_le _
  | [a] => exact sign1_le a
  | a :: b :: r =>
    show (if (a = 60 ∧ b = 62) ∨ (a = 60 ∧ b = 61) ∨ (a = 62 ∧ b = 61) then [a, b] else sign1 a).length ≤ 2
    split
    · simp
    · exact sign1_le a
theorem signT_le (l : List UInt8) : (signT l).n ≤ l.length + 2 := by
  unfold signT
  split
  · exact Nat.zero_le _
  · have := signP_le l
    show (signP l).length ≤ _
    omega
theorem hereT_le (l : List UInt8) : (hereT l).n ≤ l.length + 2 := by
  cases l with
  | nil => exact Nat.zero_le _
  | cons c l =>
    rw [hereT_eq]
    split
    · exact wordT_le _
    · split
      · exact numT_le _
      · split
        · exact textT_le _
        · exact signT_le _
set_option maxHeartbeats 1000000 in
set_option maxRecDepth 100000 in
theorem one7_any (s : ByteArray) (a : Int) (hs : s.size ≤ 1000000) (w : World) (hw : MaxW w) : Gives Tryd.prog 12 #[.string s, .int .i64 a] w (toV (oneT (bl s) a)) := by
  unfold oneT
  rw [bl_len]
  have hc := clampI_le s.size a
  have hcm := clamp_max s.size a
  generalize clampI s.size a = c at *
  have hf := firstP_le (l := bl s) (a := c) (by rw [bl_len]; exact hc)
  rw [bl_len] at hf
  have hfe : c + runP blankB ((bl s).drop c) = firstP (bl s) c := rfl
  have HRun : Hid (∀ W, Gives Tryd.prog 21 #[.string (s.extract c s.size), .func (.func 16) #[] #[]] W (.int .i64 (runP blankB ((bl s).drop c)))) := Lib.hid fun W => by
    have h := run_blank (s.extract c s.size) W
    have hbx : bl (s.extract c s.size) = (bl s).drop c := by rw [ext_drop, bl_mk ((bl s).drop c)]
    rw [hbx] at h
    exact h
  have HH : Hid (∀ W, Grew w W → Gives Tryd.prog 22 #[.string s, .int .i64 (firstP (bl s) c)] W (trV (hereT ((bl s).drop (firstP (bl s) c))))) := Lib.hid fun W hW => here7_any s _ hf hs W (hw.grew hW)
  have hn := hereT_le ((bl s).drop (firstP (bl s) c))
  have hn2 : ((bl s).drop (firstP (bl s) c)).length ≤ 1000000 := by rw [List.length_drop, bl_len]; omega
  generalize hereT ((bl s).drop (firstP (bl s) c)) = r at *
  generalize runP blankB ((bl s).drop c) = q at *
  generalize firstP (bl s) c = f at *
  have hrn : r.n ≤ 1000002 := by omega
  have e1 : IntKind.i64.wrap ((c : Int) + (q : Int)) = (f : Int) := by rw [IntWalk.i64_in _ (by omega)]; omega
  have e2 : IntKind.i64.wrap ((f : Int) + (r.n : Int)) = ((f + r.n : Nat) : Int) := by rw [IntWalk.i64_in _ (by omega)]; omega
  obtain ⟨nx, hnx⟩ : ∃ nx, f + r.n = nx := ⟨_, rfl⟩
  rw [hnx] at e2
  have HNx := Lib.hid hnx
  obtain ⟨m0, hm0⟩ : ∃ m0, max (0 : Int) a = m0 := ⟨_, rfl⟩
  rw [hm0] at hcm
  clear hn hn2 hfe hnx hrn hw
  unfold toT
  unfold Gives
  by_cases he : r.e = 0
  · rw [if_pos he]
    rw [HNx.out]
    unfold trV at HH
    rw [he] at HH
    clear he HNx
    unfold toV
    simp only
    go_enter Tryd.func12, Tryd.ntmps12
    go_upto_region 2 with fail
    clear hcm hm0
    go_upto_region 3 with ((go_at_call 21; (with_reducible refine (HRun.out _).grows.mono ?_); rintro e w1 ⟨rfl, hg1⟩; have HG1 := Lib.hid (((Grew.refl w).alloc _).trans hg1); have HB1 : Hid (Blok w1 w.heap.size 33 #[.int .i64 0, .string ⟨#[]⟩, .int .i64 0, .int .i64 0]) := Lib.hid ((Blok.new _ _ _ _ rfl).grew hg1); obtain ⟨y0, y1, y2, y3, y4, y5, y6, y7, y8⟩ := tk_in HB1.out; clear hg1))
    go_upto_region 4 with ((go_at_call 22; (with_reducible refine (HH.out _ HG1.out).grows.mono ?_); rintro e w2 ⟨rfl, hg2⟩; have HG := Lib.hid (HG1.out.trans hg2); have HB := Lib.hid (HB1.out.grew hg2); clear y0 y1 y2 y3 y4 y5 y6 y7 y8; obtain ⟨z0, z1, z2, z3, z4, z5, z6, z7, z8⟩ := tk_in HB.out; clear hg2))
    have hb5 := tk_set HB.out (.int .i64 r.k) (.string ⟨r.t.toArray⟩) (.int .i64 r.i) (.int .i64 0)
    have hg5 := grew_tk HG.out (Nat.le_refl _) (.int .i64 r.k) (.string ⟨r.t.toArray⟩) (.int .i64 r.i) (.int .i64 0)
    clear z0 z1 z2 z3 z4 z5 z6 z7 z8 HG HB HH HRun HG1 HB1
    generalize (((w2.setCell ⟨w.heap.size, 0, none⟩ (.int .i64 r.k)).setCell ⟨w.heap.size, 1, none⟩ (.string ⟨r.t.toArray⟩)).setCell ⟨w.heap.size, 2, none⟩ (.int .i64 r.i)).setCell ⟨w.heap.size, 3, none⟩ (.int .i64 0) = W5 at *
    have HB5 := Lib.hid hb5
    have HG5 := Lib.hid hg5
    clear hb5 hg5
    obtain ⟨z0, z1, z2, z3, z4, z5, z6, z7, z8⟩ := tk_in HB5.out
    go_upto_region 7 with fail
    have hb6 : Blok (W5.setCell ⟨w.heap.size, 3, none⟩ (.int .i64 f)) w.heap.size 33 #[.int .i64 r.k, .string ⟨r.t.toArray⟩, .int .i64 r.i, .int .i64 f] := by
      have := HB5.out.set 3 (.int .i64 f)
      simpa using this
    have hg6 : Grew w (W5.setCell ⟨w.heap.size, 3, none⟩ (.int .i64 f)) := Grew.setCell HG5.out (Nat.le_refl _) _
    clear z0 z1 z2 z3 z4 z5 z6 z7 z8 HG5 HB5
    generalize W5.setCell ⟨w.heap.size, 3, none⟩ (.int .i64 f) = W6 at *
    have HB := Lib.hid hb6
    have HG := Lib.hid hg6
    clear hb6 hg6
    obtain ⟨z0, z1, z2, z3, z4, z5, z6, z7, z8⟩ := tk_in HB.out
    go_wp2
    have hb := tk_set HB.out (.int .i64 r.k) (.string ⟨r.t.toArray⟩) (.int .i64 r.i) (.int .i64 f)
    obtain ⟨_, r0, r1, r2, r3, _, _, _, _⟩ := tk_in hb
    exact bodyPost_ret (v := .tuple #[.agg #[.int .i64 r.k, .string ⟨r.t.toArray⟩, .int .i64 r.i, .int .i64 f], .int .i64 nx, .int .i64 0]) (by simp [results, Tryd.results12, go_sem, r0, r1, r2, r3]) rfl ⟨rfl, grew_tk HG.out (Nat.le_refl _) _ _ _ _⟩
  · rw [if_neg he]
    have he' : (r.e != 0) = true := by simpa using he
    unfold trV at HH
    clear he HNx
    unfold toV
    simp only
    go_enter Tryd.func12, Tryd.ntmps12
    go_upto_region 2 with fail
    clear hcm hm0
    go_upto_region 3 with ((go_at_call 21; (with_reducible refine (HRun.out _).grows.mono ?_); rintro e w1 ⟨rfl, hg1⟩; have HG1 := Lib.hid (((Grew.refl w).alloc _).trans hg1); have HB1 : Hid (Blok w1 w.heap.size 33 #[.int .i64 0, .string ⟨#[]⟩, .int .i64 0, .int .i64 0]) := Lib.hid ((Blok.new _ _ _ _ rfl).grew hg1); obtain ⟨y0, y1, y2, y3, y4, y5, y6, y7, y8⟩ := tk_in HB1.out; clear hg1))
    go_upto_region 4 with ((go_at_call 22; (with_reducible refine (HH.out _ HG1.out).grows.mono ?_); rintro e w2 ⟨rfl, hg2⟩; have HG := Lib.hid (HG1.out.trans hg2); have HB := Lib.hid (HB1.out.grew hg2); clear y0 y1 y2 y3 y4 y5 y6 y7 y8; obtain ⟨z0, z1, z2, z3, z4, z5, z6, z7, z8⟩ := tk_in HB.out; clear hg2))
    have hb5 := tk_set HB.out (.int .i64 r.k) (.string ⟨r.t.toArray⟩) (.int .i64 r.i) (.int .i64 0)
    have hg5 := grew_tk HG.out (Nat.le_refl _) (.int .i64 r.k) (.string ⟨r.t.toArray⟩) (.int .i64 r.i) (.int .i64 0)
    clear z0 z1 z2 z3 z4 z5 z6 z7 z8 HG HB HH HRun HG1 HB1
    generalize (((w2.setCell ⟨w.heap.size, 0, none⟩ (.int .i64 r.k)).setCell ⟨w.heap.size, 1, none⟩ (.string ⟨r.t.toArray⟩)).setCell ⟨w.heap.size, 2, none⟩ (.int .i64 r.i)).setCell ⟨w.heap.size, 3, none⟩ (.int .i64 0) = W5 at *
    have HB5 := Lib.hid hb5
    have HG5 := Lib.hid hg5
    clear hb5 hg5
    obtain ⟨z0, z1, z2, z3, z4, z5, z6, z7, z8⟩ := tk_in HB5.out
    have HB := HB5
    have HG := HG5
    go_wp2
    have hb := tk_set HB.out (.int .i64 0) (.string ⟨#[]⟩) (.int .i64 0) (.int .i64 0)
    obtain ⟨_, r0, r1, r2, r3, _, _, _, _⟩ := tk_in hb
    exact bodyPost_ret (v := .tuple #[.agg #[.int .i64 0, .string ⟨#[]⟩, .int .i64 0, .int .i64 0], .int .i64 c, .int .i64 r.e]) (by simp [results, Tryd.results12, go_sem, r0, r1, r2, r3]) rfl ⟨rfl, grew_tk HG.out (Nat.le_refl _) _ _ _ _⟩
end Go.Proofs.YtlmohihodhdcfaaDoor
