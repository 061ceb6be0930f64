/- Layer 6: the document's own classes: rows of numbers. No condition. -/
import Derived.Test.YtoaciliojdaoaaaUf3
import Derived.Test.YtoaciliojdaoaaaApp
import Derived.Deep.QuietTactic
namespace Go.Proofs.Ytoaciliojdaoaaa
open Go.RowKit
attribute [local go_sem] more_cell more_frozen more_more more_setCell more_of_drew more_of_drewN lt_more le_more past_cell past_cell2 past_frozen past_frozen2 past_setCell past_setCell2 mid_cell mid_frozen mid_setCell
attribute [local go_sem ↓] Go.wp_at_zero Go.wp_at_succ

/-- A slice of n numbers, by a function, is left; nothing else has turned. -/
def Nums (w : World) (A0 : Option Addr) (n : Nat) (f : Nat → Nat) (e : Ending) (w' : World) : Prop := ∃ A c, e = .returned (.slice A n c) ∧ Grew w w' ∧ Row w' A (numsL n f) ∧ (A = A0 ∨ ∀ p, A = some p → w.heap.size ≤ p.block)
def RNewAt (w : World) (n : Nat) (v i : Value) (wr : World) : Prop :=
  ∃ (k : Nat) (A : Option Addr) (c : Nat), k ≤ n ∧ i = .int .i64 k ∧ v = .slice A k c ∧ wr.ownsRow w.heap.size 3 1 (.slice A k c) k (numsL k id) ∧ Grew w wr
theorem rnew_any (n : Nat) (hn : n ≤ 100000) (w : World) : Calls Try.prog 80 #[.int .i64 n] w (Nums w none n id) := by
  go_enter Try.func80, Try.ntmps80
  go_wp2
  go_loopw [3, 4] (fun v i wr => RNewAt w n v i wr) (fun _ i _ => n - (intOf i).toNat)
  case atStart => exact ⟨0, none, 0, Nat.zero_le _, rfl, rfl, own_none _ _ _ _, Grew.refl _⟩
  case round =>
    obtain ⟨k, A, c, hk, rfl, rfl, ho, hg⟩ := hrel
    have HO := Lib.hid ho
    have HG := Lib.hid hg
    clear ho hg
    by_cases h : k < n
    · go_wp2_with (at_builtin; refine wpList_app rfl (.tmp 10) (.tmp 12) 30 3 rfl w (.int .i64 0) 8 Try.underlying30 infoInt3 rfl (by decide) _ k (numsL k id) rfl (own_alloc HO.out _) _ 1 1 [.int .i64 k] rfl rfl (row_one _ _ _ _ rfl) (by simp; rfl) (by omega) (HG.out.alloc _) ?_)
      intro A2 c2 w2 ho2 hr2 hg2 _ _
      have HO2 := Lib.hid (by have h2 := ho2; rw [show Value.int .i64 (k : Nat) = Value.int .i64 (id k : Nat) from rfl, numsL_snoc] at h2; exact h2 : w2.ownsRow w.heap.size 3 1 (.slice A2 (k + 1) c2) (k + 1) (numsL (k + 1) id))
      have HG2 := Lib.hid hg2
      clear ho2 hr2 hg2 HO HG
      go_wp2
      refine ⟨⟨k + 1, A2, c2, by omega, by go_num, rfl, HO2.out, HG2.out⟩, by simp only [intOf]; omega⟩
    · obtain rfl : k = n := by omega
      go_wp2
      go_ret
      obtain ⟨A', c', h1, h2⟩ := own_row HO.out
      injection h1 with h1 _ h3
      subst h1
      exact ⟨_, _, rfl, HG.out, h2, Or.inr fun p hp => own_base HO.out p.block (by rw [hp]; rfl)⟩
/-- The row of the document's own, while it is turned. -/
def RJoinAt (w : World) (g c n : Nat) (f : Nat → Nat) (x y : Nat) (i : Value) (wr : World) : Prop :=
  ∃ k : Nat, k ≤ n ∧ i = .int .i64 k ∧ wr.ownsRow w.heap.size 3 1 (.slice (some ⟨g, 0, none⟩) n c) n (numsL n (fun j => if j < k then (if f j = y then x else f j) else f j)) ∧ Grew w wr
theorem rjoin_no (A : Option Addr) (n c : Nat) (f : Nat → Nat) (a b : Int) (w : World) (hr : Row w A (numsL n f)) (ho : ¬ (0 ≤ a ∧ 0 ≤ b ∧ a < n ∧ b < n)) :
    Calls Try.prog 81 #[.slice A n c, .int .i64 a, .int .i64 b] w (Nums w A n f) := by
  have HR := Lib.hid hr
  clear hr
  rcases (by omega : a < 0 ∨ (0 ≤ a ∧ b < 0) ∨ (0 ≤ a ∧ 0 ≤ b ∧ (n : Int) ≤ a) ∨ (0 ≤ a ∧ 0 ≤ b ∧ a < n ∧ (n : Int) ≤ b)) with h1 | ⟨h1, h2⟩ | ⟨h1, h2, h3⟩ | ⟨h1, h2, h3, h4⟩
  all_goals
    clear ho
    go_enter Try.func81, Try.ntmps81
    go_wp2
    go_ret
    exact ⟨_, _, rfl, Grew.refl _, HR.out, Or.inl rfl⟩
set_option maxHeartbeats 1000000 in
theorem rjoin_yes (A : Option Addr) (n c : Nat) (f : Nat → Nat) (a b p q : Nat) (w : World) (hr : Row w A (numsL n f)) (hn : n ≤ 100000) (ha : a < n) (hb : b < n) (hp : f a = p) (hq : f b = q) :
    Calls Try.prog 81 #[.slice A n c, .int .i64 a, .int .i64 b] w (Nums w A n (joinR f p q)) := by
  obtain ⟨B, o, rfl, hB, ca⟩ := hr.nums ha
  obtain ⟨B', o', hA', _, cb⟩ := hr.nums hb
  injection hA' with hA'
  injection hA' with e1 e2 _
  subst e1 e2
  rw [hp] at ca
  rw [hq] at cb
  have HR := Lib.hid hr
  clear hr hp hq
  obtain ⟨x, y, hxy, hx, hlt⟩ : ∃ x y, joinR f p q = (fun j => if f j = y then x else f j) ∧ ((q < p ∧ x = q ∧ y = p) ∨ (p ≤ q ∧ x = p ∧ y = q)) ∧ True := by
    rcases (by omega : q < p ∨ p ≤ q) with h | h
    · exact ⟨q, p, by unfold joinR; rw [Nat.max_eq_left (by omega), Nat.min_eq_right (by omega)], Or.inl ⟨h, rfl, rfl⟩, trivial⟩
    · exact ⟨p, q, by unfold joinR; rw [Nat.max_eq_right (by omega), Nat.min_eq_left (by omega)], Or.inr ⟨h, rfl, rfl⟩, trivial⟩
  have HXY := Lib.hid hxy
  clear hxy hlt
  rcases hx with ⟨hlt, rfl, rfl⟩ | ⟨hlt, rfl, rfl⟩
  all_goals
    go_enter Try.func81, Try.ntmps81
    go_wp2
    go_quiet (fail)
    go_wp2_with (at_builtin; refine wpList_app rfl (.tmp 43) (.tmp 44) 30 3 rfl w (.int .i64 0) 8 Try.underlying30 infoInt3 rfl (by decide) _ 0 [] rfl (own_empty _ _ _ _ _ rfl (by show _ ≤ _; exact Nat.le_refl _)) _ n c (numsL n f) rfl (numsL_len n f) ?p1 (numsL_one n f) (by omega) ?p2 ?_)
    case p1 => exact row_alloc (HR.out.grew ((Grew.refl w).drewN _)) _
    case p2 => exact ((Grew.refl w).drewN _).alloc _
    intro A2 c2 w2 ho2 hr2 hg2 _ _
    obtain ⟨g, cap, hv, hrest⟩ := World.ownsRow.form ho2 (by omega)
    injection hv with hv1 _ hv3
    subst hv1 hv3
    have HO2 := Lib.hid ho2
    have HG2 := Lib.hid hg2
    clear ho2 hr2 hg2 hrest HR ca cb
    go_wp2
    go_loopw [10] (fun i wr => RJoinAt w g c2 n f x y i wr) (fun i _ => n - (intOf i).toNat)
    case atStart => exact ⟨0, Nat.zero_le _, rfl, by simpa using HO2.out, HG2.out⟩
    case round =>
      obtain ⟨k, hk, rfl, hok, hgk⟩ := hrel
      by_cases h : k < n
      · have c0 := hok.cellAt k (by omega)
        rw [numsL_at _ _ _ h] at c0
        simp only [Nat.lt_irrefl, if_false] at c0
        have z0 := hok.frozenAt k
        have hgb := World.ownsRow.lt hok g rfl
        have hs := hok.stored k (.int .i64 (x : Nat))
        rw [numsL_set] at hs
        have HS := Lib.hid hs
        have HO := Lib.hid hok
        have HG := Lib.hid hgk
        clear hok hgk hs
        by_cases e : f k = y
        · have t1 : ((f k : Int) == (y : Int)) = true := by rw [beq_iff_eq]; omega
          have HN := Lib.hid (numsL_congr n (fun i => if i = k then x else (fun j => if j < k then (if f j = y then x else f j) else f j) i) (fun j => if j < k + 1 then (if f j = y then x else f j) else f j) (by
            intro i _
            by_cases e1 : i = k
            · subst e1; simp [e]
            · by_cases e2 : i < k
              · simp [e1, e2, show i < k + 1 by omega]
              · simp [e1, e2, show ¬ i < k + 1 by omega]))
          generalize f k = fk at c0 t1
          clear e
          go_wp2
          refine ⟨⟨k + 1, by omega, by go_num, by rw [← HN.out]; exact HS.out.1, HG.out.setCell hgb.1 _⟩, by simp only [intOf]; omega⟩
        · have t1 : ((f k : Int) == (y : Int)) = false := by rw [beq_eq_false_iff_ne]; omega
          have HN := Lib.hid (numsL_congr n (fun j => if j < k then (if f j = y then x else f j) else f j) (fun j => if j < k + 1 then (if f j = y then x else f j) else f j) (by
            intro i _
            by_cases e1 : i = k
            · subst e1; simp [e]
            · by_cases e2 : i < k
              · simp [e2, show i < k + 1 by omega]
              · simp [e2, show ¬ i < k + 1 by omega]))
          generalize f k = fk at c0 t1
          clear e
          go_wp2
          refine ⟨⟨k + 1, by omega, by go_num, by rw [← HN.out]; exact HO.out, HG.out⟩, by simp only [intOf]; omega⟩
      · obtain rfl : k = n := by omega
        have HO := Lib.hid hok
        have HG := Lib.hid hgk
        clear hok hgk
        go_wp2
        go_ret
        obtain ⟨A', c', h1, h2⟩ := own_row HO.out
        injection h1 with h1 _ h3
        subst h1
        refine ⟨_, _, rfl, HG.out, ?_, Or.inr fun p hp => own_base HO.out p.block (by rw [hp]; rfl)⟩
        rw [HXY.out, ← numsL_congr _ _ _ (fun i hi => if_pos hi)]
        exact h2
end Go.Proofs.Ytoaciliojdaoaaa
