/- Layer 7: texts between two quotes. Condition: a text of no more than a million bytes. -/
import Derived.Test.YtlmohihodhdcfaaDoorTok4
import Derived.Test.YtlmohihodhdcfaaDoorShelf
namespace Go.Proofs.YtlmohihodhdcfaaDoor
open Go.RowKit
attribute [local go_sem] more_cell more_frozen more_more more_setCell more_of_drew more_of_drewN lt_more le_more past_cell past_cell2 past_frozen past_frozen2 past_setCell past_setCell2 mid_cell mid_frozen mid_setCell
attribute [local go_sem ↓] Go.wp_at_zero Go.wp_at_succ

theorem get_plus (s : ByteArray) (i k : Nat) (h : i + k < s.size) : s.get! (i + k) = s[i + k] := get_at s (i + k) h
theorem decode_skip (s : ByteArray) (pos : Nat) (h : pos < s.size) (ha : 128 ≤ s[pos].toNat) : pos + (Utf8.decode s pos).2 ≤ s.size ∧ ∀ j (hj : j < s.size), pos ≤ j → j < pos + (Utf8.decode s pos).2 → ¬ s[j].toNat = 39 := by
  have hn : ¬ s[pos].toNat < 128 := by omega
  have hcont : ∀ k, (decide (pos + k < s.size) && (s.get! (pos + k)).toNat / 64 == 2) = true → ∃ h : pos + k < s.size, 128 ≤ s[pos + k].toNat := fun k hk => by
    rw [Bool.and_eq_true, decide_eq_true_iff, beq_iff_eq] at hk
    obtain ⟨h1, h2⟩ := hk
    rw [get_plus s pos k h1] at h2
    exact ⟨h1, by omega⟩
  have one : pos + 1 ≤ s.size ∧ ∀ j (hj : j < s.size), pos ≤ j → j < pos + 1 → ¬ s[j].toNat = 39 := ⟨h, fun j hj h1 h2 => by
    obtain rfl : j = pos := by omega
    omega⟩
  have more : ∀ n, 1 ≤ n → (∀ k, 1 ≤ k → k < n → ∃ h : pos + k < s.size, 128 ≤ s[pos + k].toNat) → pos + n ≤ s.size ∧ ∀ j (hj : j < s.size), pos ≤ j → j < pos + n → ¬ s[j].toNat = 39 := fun n hn1 hk => by
    refine ⟨?_, fun j hj h1 h2 => ?_⟩
    · rcases Nat.lt_or_ge 1 n with h1 | h1
      · obtain ⟨q, _⟩ := hk (n - 1) (by omega) (by omega)
        omega
      · omega
    · rcases Nat.lt_or_ge pos j with h3 | h3
      · obtain ⟨k, rfl⟩ : ∃ k, j = pos + k := ⟨j - pos, by omega⟩
        obtain ⟨_, q⟩ := hk k (by omega) (by omega)
        omega
      · obtain rfl : j = pos := by omega
        omega
  simp only [Utf8.decode, get_at s pos h, hn, if_false]
  split
  · rename_i hc
    rw [Bool.and_eq_true] at hc
    split
    · exact more 2 (by omega) fun k h1 h2 => by
        obtain rfl : k = 1 := by omega
        exact hcont 1 hc.2
    · exact one
  · split
    · rename_i hc
      rw [Bool.and_eq_true, Bool.and_eq_true] at hc
      split
      · exact more 3 (by omega) fun k h1 h2 => by
          rcases (by omega : k = 1 ∨ k = 2) with rfl | rfl
          · exact hcont 1 hc.1.2
          · exact hcont 2 hc.2
      · exact one
    · split
      · rename_i hc
        rw [Bool.and_eq_true, Bool.and_eq_true, Bool.and_eq_true] at hc
        split
        · exact more 4 (by omega) fun k h1 h2 => by
            rcases (by omega : k = 1 ∨ k = 2 ∨ k = 3) with rfl | rfl | rfl
            · exact hcont 1 hc.1.1.2
            · exact hcont 2 hc.1.2
            · exact hcont 3 hc.2
        · exact one
      · exact one
def closedN (l : List UInt8) : Nat := match unq (l.drop 1) with
  | none => 0
  | some (_, n) => n + 1
theorem closedN_none {l : List UInt8} (h : unq (l.drop 1) = none) : closedN l = 0 := by unfold closedN; rw [h]
theorem closedN_some {l t : List UInt8} {n : Nat} (h : unq (l.drop 1) = some (t, n)) : closedN l = n + 1 := by unfold closedN; rw [h]
/-- How far one has come: with no quote open, or with one just behind. -/
def OpenS (M : List UInt8) (pos : Nat) (o : Int) : Prop := (o = -1 ∧ ∃ t, unq M = sh t pos (unq (M.drop pos))) ∨ (∃ p : Nat, o = p ∧ p + 1 = pos ∧ (∃ h : p < M.length, M[p].toNat = 39) ∧ ∃ t, unq M = sh t p (unq (M.drop p)))
def ClosedAt (m : ByteArray) (w : World) (v : Value) (wr : World) : Prop := ∃ (pos : Nat) (o : Int), pos ≤ m.size ∧ v = .int .i64 o ∧ wr = w.iter m pos ∧ OpenS (bl m) pos o
set_option maxHeartbeats 1000000 in
set_option maxRecDepth 100000 in
theorem closed7_any (s : ByteArray) (hs : s.size ≤ 1000000) (h1 : 1 ≤ s.size) (w : World) : Gives Tryd.prog 37 #[.string s] w (.int .i64 (closedN (bl s))) := by
  obtain ⟨r, hr⟩ : ∃ r, closedN (bl s) = r := ⟨_, rfl⟩
  have hm : bl (s.extract 1 s.size) = (bl s).drop 1 := by rw [ext_drop, bl_mk]
  have HN : Hid (unq (bl (s.extract 1 s.size)) = none → r = 0) := Lib.hid fun h => by rw [← hr]; rw [hm] at h; exact closedN_none h
  have HS : Hid (∀ t n, unq (bl (s.extract 1 s.size)) = some (t, n) → r = n + 1) := Lib.hid fun t n h => by rw [← hr]; rw [hm] at h; exact closedN_some h
  rw [hr]
  have hms : (s.extract 1 s.size).size ≤ 1000000 := by rw [ByteArray.size_extract]; omega
  have HX : Hid (s.extract 1 s.size = s.extract 1 s.size) := Lib.hid rfl
  clear hr hm
  obtain ⟨m, hme⟩ : ∃ m, s.extract 1 s.size = m := ⟨_, rfl⟩
  rw [hme] at HN HS hms
  clear HX
  unfold Gives
  go_enter Tryd.func37, Tryd.ntmps37
  go_wp2
  clear hme
  go_loopw [3] (fun v wr => ClosedAt m w v wr) (fun _ wr => m.size - wr.iterPos w.heap.size)
  case atStart => exact ⟨0, -1, Nat.zero_le _, rfl, rfl, Or.inl ⟨rfl, _, unq_start _⟩⟩
  case round =>
    obtain ⟨pos, o, hpos, rfl, rfl, ho⟩ := hrel
    have HO := Lib.hid ho
    clear ho
    by_cases hlt : pos < m.size
    · have hlb : pos < (bl m).length := by rw [bl_len]; exact hlt
      have hbe : (bl m)[pos] = m[pos] := bl_get hlt hlb
      by_cases ha : (m[pos]'hlt).toNat < 128
      · have hnx : ∀ ty, (Instr.next (.pointer (some ⟨w.heap.size, 0, none⟩)) true ty).run Tryd.prog (w.iter m pos) = _ := fun ty => run_next_ascii w m pos ty hlt ha
        by_cases hq : (m[pos]'hlt).toNat = 39
        · rcases HO.out with ⟨rfl, t, ht⟩ | ⟨p, rfl, hp, ⟨hpl, hp39⟩, t, ht⟩
          · have HR : Hid (OpenS (bl m) (pos + 1) (pos : Int)) := Lib.hid (Or.inr ⟨pos, rfl, rfl, ⟨hlb, by rw [hbe]; exact hq⟩, t, ht⟩)
            rw [hq] at hnx
            clear HO HN HS ht hbe
            go_wp2
            exact ⟨⟨pos + 1, _, by omega, rfl, rfl, HR.out⟩, by simp; omega⟩
          · subst hp
            have HR : Hid (OpenS (bl m) (p + 1 + 1) (-1)) := Lib.hid (Or.inl ⟨rfl, _, unq_s2 ht hlb hp39 (by rw [hbe]; exact hq)⟩)
            rw [hq] at hnx
            clear HO HN HS ht hbe hp39
            go_wp2
            exact ⟨⟨p + 1 + 1, _, by omega, rfl, rfl, HR.out⟩, by simp; omega⟩
        · have hq1 : (((m[pos]'hlt).toNat : Int) == 39) = false := by rw [beq_eq_false_iff_ne]; omega
          rcases HO.out with ⟨rfl, t, ht⟩ | ⟨p, rfl, hp, ⟨hpl, hp39⟩, t, ht⟩
          · have HR : Hid (OpenS (bl m) (pos + 1) (-1)) := Lib.hid (Or.inl ⟨rfl, _, unq_s1 ht hlb (by rw [hbe]; exact hq)⟩)
            clear HO HN HS ht hbe hq
            generalize (m[pos]'hlt).toNat = c at *
            go_wp2
            exact ⟨⟨pos + 1, _, by omega, rfl, rfl, HR.out⟩, by simp; omega⟩
          · subst hp
            have hrr := HS.out _ _ (unq_s3 ht hpl hp39 (Or.inr ⟨hlb, by rw [hbe]; exact hq⟩))
            subst hrr
            clear HO HN HS ht hbe hq hp39
            generalize (m[p + 1]'hlt).toNat = c at *
            go_wp2
            go_ret
            exact ⟨by simp; omega, (Grew.refl w).alloc _⟩
      · have hnx : ∀ ty, (Instr.next (.pointer (some ⟨w.heap.size, 0, none⟩)) true ty).run Tryd.prog (w.iter m pos) = _ := fun ty => run_next_any w m pos ty hlt
        have hh := decode_high m pos hlt (by omega)
        have hk := decode_skip m pos hlt (by omega)
        have hle := decode_le m pos
        have hq : ¬ (m[pos]'hlt).toNat = 39 := by omega
        generalize (Utf8.decode m pos) = dd at *
        have hq1 : ((dd.1 : Int) == 39) = false := by rw [beq_eq_false_iff_ne]; omega
        rcases HO.out with ⟨rfl, t, ht⟩ | ⟨p, rfl, hp, ⟨hpl, hp39⟩, t, ht⟩
        · have HR : Hid (OpenS (bl m) (pos + dd.2) (-1)) := Lib.hid (by
            obtain ⟨t', ht'⟩ := unq_sn ht dd.2 (by rw [bl_len]; exact hk.1) fun j hj h1 h2 => by
              have e := bl_get (s := m) (i := j) (by rw [bl_len] at hj; exact hj) hj
              rw [e]
              exact hk.2 j _ h1 h2
            exact Or.inl ⟨rfl, t', ht'⟩)
          have hk1 := hk.1
          clear HO HN HS ht hbe hq ha hk
          go_wp2
          exact ⟨⟨pos + dd.2, _, by omega, rfl, rfl, HR.out⟩, by simp; omega⟩
        · subst hp
          have hrr := HS.out _ _ (unq_s3 ht hpl hp39 (Or.inr ⟨hlb, by rw [hbe]; exact hq⟩))
          subst hrr
          clear HO HN HS ht hbe hq hp39 ha hk
          go_wp2
          go_ret
          exact ⟨by simp; omega, (Grew.refl w).alloc _⟩
    · obtain rfl : pos = m.size := by omega
      have hnx : ∀ ty, (Instr.next (.pointer (some ⟨w.heap.size, 0, none⟩)) true ty).run Tryd.prog (w.iter m m.size) = _ := fun ty => run_next_end w m m.size ty hlt
      rcases HO.out with ⟨rfl, t, ht⟩ | ⟨p, rfl, hp, ⟨hpl, hp39⟩, t, ht⟩
      · obtain rfl := HN.out (unq_s0 ht (by rw [bl_len]; exact Nat.le_refl _))
        clear HO HN HS ht
        go_wp2
        go_ret
        exact ⟨rfl, (Grew.refl w).alloc _⟩
      · have hrr := HS.out _ _ (unq_s3 ht hpl hp39 (Or.inl (by rw [bl_len]; exact hp)))
        subst hrr
        have hp2 : p ≤ 1000000 := by omega
        clear HO HN HS ht hp39 hp
        go_wp2
        go_ret
        exact ⟨by simp; omega, (Grew.refl w).alloc _⟩
/-- The library's own table of how long a search may be holds a number. -/
def MaxW (w : World) : Prop := ∃ m, w.cell? ⟨0, 0, none⟩ = some (.int .i64 m)
theorem MaxW.grew {w w' : World} (h : MaxW w) (g : Grew w w') : MaxW w' := by
  obtain ⟨m, hm⟩ := h
  obtain ⟨x, rfl⟩ := g
  exact ⟨m, by rw [more_cell _ _ _ (World.block_lt_of_cell? _ _ hm)]; exact hm⟩
theorem rep_q (x : ByteArray) (hs : x.size ≤ 1000000) (w : World) (hw : MaxW w) : Gives Tryd.prog 28 #[.string x, .string ⟨#[39]⟩, .string ⟨#[39, 39]⟩] w (.string ⟨(qq (bl x)).toArray⟩) := by
  obtain ⟨m, hm⟩ := hw
  have hc := Lib.countB_mul_le ⟨#[39]⟩ (by decide) x.size x (Nat.le_refl _)
  have e1 : (⟨#[39]⟩ : ByteArray).size = 1 := rfl
  have e2 : (⟨#[39, 39]⟩ : ByteArray).size = 2 := rfl
  rw [e1] at hc
  refine Gives.of_grew ((Tryd.strings_ReplaceAll x ⟨#[39]⟩ ⟨#[39, 39]⟩ m w (by omega) hm (by decide) (by rw [e2]; omega)).mono ?_)
  rintro e w' ⟨rfl, hb⟩
  refine ⟨?_, Grew.of_below hb⟩
  have := rep_quote (bl x)
  unfold bl at *
  rw [← this]
theorem rep_u (x : ByteArray) (t : List UInt8) (hx : bl x = qq t) (hs : x.size ≤ 1000000) (w : World) (hw : MaxW w) : Gives Tryd.prog 28 #[.string x, .string ⟨#[39, 39]⟩, .string ⟨#[39]⟩] w (.string ⟨t.toArray⟩) := by
  obtain ⟨m, hm⟩ := hw
  have hc := Lib.countB_mul_le ⟨#[39, 39]⟩ (by decide) x.size x (Nat.le_refl _)
  have e1 : (⟨#[39]⟩ : ByteArray).size = 1 := rfl
  have e2 : (⟨#[39, 39]⟩ : ByteArray).size = 2 := rfl
  rw [e2] at hc
  refine Gives.of_grew ((Tryd.strings_ReplaceAll x ⟨#[39, 39]⟩ ⟨#[39]⟩ m w (by omega) hm (by decide) (by rw [e1]; omega)).mono ?_)
  rintro e w' ⟨rfl, hb⟩
  refine ⟨?_, Grew.of_below hb⟩
  have := rep_unquote t
  rw [← hx] at this
  unfold bl at *
  rw [this]
end Go.Proofs.YtlmohihodhdcfaaDoor
