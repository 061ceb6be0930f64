/- Layers 27 and 39: the same said, the same way to ask: of one thing that lies twice. Condition: not more than 10^15 of anything. -/
import Derived.Test.YtcokhgomibimcaaAskRel
import Derived.Test.YtcokhgomibimcaaSame
import Derived.Test.YtcokhgomibimcaaHead
namespace Go.Proofs.Ytcokhgomibimcaa
open Go.RowKit
attribute [local go_sem] more_cell more_frozen more_more more_setCell more_of_drew more_of_drewN lt_more le_more past_cell past_cell2 past_frozen past_frozen2 past_setCell past_setCell2 mid_cell mid_frozen mid_setCell
attribute [local go_sem ↓] Go.wp_at_zero Go.wp_at_succ

def smallN (n : Nat) : Prop := n ≤ 1000000000000000
set_option maxRecDepth 100000 in
theorem samecol_same (x : ColS) (A B : Option Addr) (c d : Nat) (hl : smallN x.m.length) (w : World) (ha : Row w A (iV x.m)) (hb : Row w B (iV x.m)) :
    Gives Try.prog 78 #[.agg #[.int .i64 x.u, .int .i64 x.n, .slice A x.m.length c], .agg #[.int .i64 x.u, .int .i64 x.n, .slice B x.m.length d]] w (.bool true) := by
  unfold Gives
  have HS : Hid (∀ W, Grew w W → Gives Try.prog 22 #[.slice A x.m.length c, .slice B x.m.length d] W (.bool true)) := Lib.hid fun W hW => by
    have h := samelist_any x.m x.m A B c d W (ha.grew hW) (hb.grew hW) hl hl
    rw [decide_eq_true (rfl : x.m = x.m)] at h
    exact h
  obtain ⟨u, n, m⟩ := x
  clear ha hb
  have e1 : (u == u) = true := by simp
  have e2 : (n == n) = true := by simp
  go_enter Try.func78, Try.ntmps78
  go_wp2_with (go_at_call 22; (with_reducible refine (HS.out _ (by repeat (first | exact Grew.refl _ | apply Grew.alloc))).grows.mono ?_); rintro e w2 ⟨rfl, hg2⟩; have HG2 := Lib.hid hg2; clear hg2)
  go_ret
  exact ⟨rfl, Grew.trans (by repeat (first | exact Grew.refl _ | apply Grew.alloc)) HG2.out⟩
def GrowAt (u : World) (n : Nat) (i : Value) (wr : World) : Prop := ∃ j : Nat, j ≤ n ∧ i = .int .i64 j ∧ Grew u wr
def smallC (l : List ColS) : Prop := smallN l.length ∧ ∀ c ∈ l, smallN c.m.length
def smallT (l : List StatS) : Prop := smallN l.length ∧ ∀ s ∈ l, smallC s.cols
theorem colsR_at {w : World} {A : Option Addr} {l : List ColS} (h : ColsR (PRow w) A l) {i : Nat} (hi : i < l.length) :
    ∃ b o B k, A = some ⟨b, o, none⟩ ∧ b < w.heap.size ∧ Row w B (iV l[i].m) ∧ w.cell? ⟨b, o + i * 3, none⟩ = some (.int .i64 l[i].u) ∧ w.cell? ⟨b, o + i * 3 + 1, none⟩ = some (.int .i64 l[i].n) ∧ w.cell? ⟨b, o + i * 3 + 2, none⟩ = some (.slice B l[i].m.length k) := by
  obtain ⟨css, h1, h2⟩ := h
  obtain ⟨b, o, cs, hA, hb, ⟨B, k, hcs, hr⟩, _, hc⟩ := h1.at_ h2 (by decide) hi
  subst hcs
  exact ⟨b, o, B, k, hA, hb, hr, hc 0 _ rfl, by rw [Nat.add_assoc]; exact hc 1 _ rfl, by rw [Nat.add_assoc]; exact hc 2 _ rfl⟩
theorem statsR_at {w : World} {A : Option Addr} {l : List StatS} (h : StatsR (PRow w) A l) {i : Nat} (hi : i < l.length) :
    ∃ b o B k, A = some ⟨b, o, none⟩ ∧ b < w.heap.size ∧ ColsR (PRow w) B l[i].cols ∧ w.cell? ⟨b, o + i * 2, none⟩ = some (.int .i64 l[i].rows) ∧ w.cell? ⟨b, o + i * 2 + 1, none⟩ = some (.slice B l[i].cols.length k) := by
  obtain ⟨css, h1, h2⟩ := h
  obtain ⟨b, o, cs, hA, hb, ⟨B, k, hcs, hr⟩, _, hc⟩ := h1.at_ h2 (by decide) hi
  subst hcs
  exact ⟨b, o, B, k, hA, hb, hr, hc 0 _ rfl, by rw [Nat.add_assoc]; exact hc 1 _ rfl⟩
theorem ColsR.grew {w w' : World} {A : Option Addr} {l : List ColS} (h : ColsR (PRow w) A l) (g : Grew w w') : ColsR (PRow w') A l := h.map fun _ _ _ _ h => Row.grew h g
theorem StatsR.grew {w w' : World} {A : Option Addr} {l : List StatS} (h : StatsR (PRow w) A l) (g : Grew w w') : StatsR (PRow w') A l := h.map fun _ _ _ h => Row.grew h g
set_option maxHeartbeats 4000000 in
set_option maxRecDepth 100000 in
theorem samestat_same (rows : Int) (l : List ColS) (A B : Option Addr) (c d : Nat) (hl : smallC l) (w : World) (ha : ColsR (PRow w) A l) (hb : ColsR (PRow w) B l) :
    Gives Try.prog 75 #[.agg #[.int .i64 rows, .slice A l.length c], .agg #[.int .i64 rows, .slice B l.length d]] w (.bool true) := by
  unfold Gives
  have HA := Lib.hid ha
  have HB := Lib.hid hb
  have HS : Hid (∀ (x : ColS), x ∈ l → ∀ (P Q : Option Addr) (p q : Nat) W, Row W P (iV x.m) → Row W Q (iV x.m) → Gives Try.prog 78 #[.agg #[.int .i64 x.u, .int .i64 x.n, .slice P x.m.length p], .agg #[.int .i64 x.u, .int .i64 x.n, .slice Q x.m.length q]] W (.bool true)) := Lib.hid fun x hx P Q p q W h1 h2 => samecol_same x P Q p q (hl.2 x hx) W h1 h2
  have hln : l.length ≤ 1000000000000000 := hl.1
  clear ha hb hl
  have e1 : (rows != rows) = false := by simp
  have e2 : ((l.length : Int) != (l.length : Int)) = false := by simp
  go_enter Try.func75, Try.ntmps75
  go_wp2
  have hg0 : Grew w ((w.alloc (.cells #[.int .i64 rows, .slice A l.length c] 97)).alloc (.cells #[.int .i64 rows, .slice B l.length d] 97)) := ((Grew.refl w).alloc _).alloc _
  have b1 := (Blok.new w 97 #[.int .i64 rows, .slice A l.length c] _ rfl).alloc (.cells #[.int .i64 rows, .slice B l.length d] 97)
  have b2 := Blok.new (w.alloc (.cells #[.int .i64 rows, .slice A l.length c] 97)) 97 #[.int .i64 rows, .slice B l.length d] (w.heap.size + 1) (by simp)
  generalize ((w.alloc (.cells #[.int .i64 rows, .slice A l.length c] 97)).alloc (.cells #[.int .i64 rows, .slice B l.length d] 97)) = w0 at *
  have HG0 := Lib.hid hg0
  have B1 := Lib.hid b1
  have B2 := Lib.hid b2
  clear hg0 b1 b2
  go_loopw [5] (fun i wr => GrowAt w0 l.length i wr) (fun i _ => l.length - (intOf i).toNat)
  case atStart => exact ⟨0, Nat.zero_le _, rfl, Grew.refl _⟩
  case round =>
    obtain ⟨j, hj, rfl, hg⟩ := hrel
    have HGj := Lib.hid hg
    have p1 := (B1.out.grew hg).cell 1
    have p2 := (B2.out.grew hg).cell 1
    have l1 := (B1.out.grew hg).lt
    have l2 := (B2.out.grew hg).lt
    simp at p1 p2
    clear hg
    by_cases h : j < l.length
    · obtain ⟨b, o, P, k, rfl, hb, hr, q0, q1, q2⟩ := colsR_at (HA.out.grew (HG0.out.trans HGj.out)) h
      obtain ⟨b', o', P', k', rfl, hb', hr', q0', q1', q2'⟩ := colsR_at (HB.out.grew (HG0.out.trans HGj.out)) h
      have HR := Lib.hid hr
      have HR' := Lib.hid hr'
      have HM := Lib.hid (List.getElem_mem h)
      generalize l[j] = x at *
      have HC : Hid (∀ W, Grew wr W → Gives Try.prog 78 #[.agg #[.int .i64 x.u, .int .i64 x.n, .slice P x.m.length k], .agg #[.int .i64 x.u, .int .i64 x.n, .slice P' x.m.length k']] W (.bool true)) := Lib.hid fun W hW => HS.out x HM.out P P' k k' W (HR.out.grew hW) (HR'.out.grew hW)
      clear hr hr'
      obtain ⟨u, n, m⟩ := x
      go_wp2
      refine wp_region_more (by kernel_rfl) (by kernel_rfl) ?_
      repeat (go_big_quiet_step (((go_at_call 78; exact (HC.out _ ⟨_, rfl⟩).within))))
      refine wpQuiet_nil ?_
      rintro _ ⟨z, rfl⟩
      go_wp2
      exact ⟨⟨j + 1, by omega, by go_num, HGj.out.more _⟩, by simp only [intOf]; omega⟩
    · obtain rfl : j = l.length := by omega
      go_wp2
      go_ret
      exact ⟨rfl, HG0.out.trans HGj.out⟩
end Go.Proofs.Ytcokhgomibimcaa
