/- The statement PlaceAllsSaid: for every input the law returns true, and each argument reads as it did. No condition beyond the row's own. -/
import Derived.Test.YtoaciliojdaoaaaQPa
import Derived.Test.YtoaciliojdaoaaaQNa
import Derived.Test.YtoaciliojdaoaaaQNm
import Derived.Test.YtoaciliojdaoaaaQPb
import Derived.Test.YtoaciliojdaoaaaQuery
import Derived.Test.YtoaciliojdaoaaaFrame2

/- Layer 31: are two lists of filters the same, by the document: true of equal ones. Condition: memory that is there. -/
namespace Go.Proofs.Ytoaciliojdaoaaa
open Go.RowKit
attribute [local go_sem] more_cell more_frozen more_more more_setCell more_of_drew more_of_drewN lt_more le_more past_cell past_cell2 past_frozen past_frozen2 past_setCell past_setCell2 mid_cell mid_frozen mid_setCell
attribute [local go_sem ↓] Go.wp_at_zero Go.wp_at_succ

def RsmAt (w : World) (n : Nat) (i : Value) (wr : World) : Prop := ∃ q : Nat, q ≤ n ∧ i = .int .i64 q ∧ Grew w wr
set_option maxHeartbeats 8000000 in
set_option maxRecDepth 100000 in
theorem rsame31_any (l : List Fv) (A B : Option Addr) (k j : Nat) (hl : l.length ≤ 2000000) (hc : ∀ x ∈ l, x.a.length ≤ 1000000 ∧ x.b.length ≤ 1000000) (w : World) (ra : FvsR (PRow w) A l) (rb : FvsR (PRow w) B l) :
    Gives Try.prog 10 #[.slice A l.length k, .slice B l.length j] w (.bool true) := by
  have RA := Lib.hid ra
  have RB := Lib.hid rb
  have HSm : Hid (∀ (m : List Int) X x Y y W, m.length ≤ 1000000 → Row W X (iV m) → Row W Y (iV m) → Gives Try.prog 19 #[.slice X m.length x, .slice Y m.length y] W (.bool true)) := Lib.hid fun m X x Y y W hm h1 h2 => by
    have := samelist_any m m X Y x y W h1 h2 (by omega) (by omega)
    rwa [decide_eq_true rfl] at this
  clear ra rb
  unfold Gives
  generalize hll : l.length = ll at *
  have HLl := Lib.hid hll
  clear hll
  go_enter Try.func10, Try.ntmps10
  go_wp2_with fail
  go_loopw [5] (fun i wr => RsmAt w ll i wr) (fun i _ => ll - (intOf i).toNat)
  case atStart => exact ⟨0, Nat.zero_le _, rfl, Grew.refl _⟩
  case round =>
    obtain ⟨q, hq, rfl, hg⟩ := hrel
    have HG := Lib.hid hg
    clear hg
    by_cases hlt : q < ll
    · have hq' : q < l.length := by rw [HLl.out]; exact hlt
      obtain ⟨b, o, X, x, Y, y, rfl, hb, c0, c1, c2, c3, rX, rY⟩ := fvsR_at (RA.out.grew HG.out) hq'
      obtain ⟨b', o', X', x', Y', y', rfl, hb', c0', c1', c2', c3', rX', rY'⟩ := fvsR_at (RB.out.grew HG.out) hq'
      have hcc := hc _ (List.getElem_mem hq')
      generalize l[q] = z at *
      have HA : Hid (∀ W, Grew wr W → b < W.heap.size ∧ W.cell? ⟨b, o + q * 4, none⟩ = some (.int .i64 z.f) ∧ W.cell? ⟨b, o + q * 4 + 1, none⟩ = some (.slice X z.a.length x) ∧ W.cell? ⟨b, o + q * 4 + 2, none⟩ = some (.int .i64 z.t) ∧ W.cell? ⟨b, o + q * 4 + 3, none⟩ = some (.slice Y z.b.length y)) := Lib.hid fun W hW => ⟨Nat.lt_of_lt_of_le hb hW.size, cell_keep hW hb c0, cell_keep hW hb c1, cell_keep hW hb c2, cell_keep hW hb c3⟩
      have HB : Hid (∀ W, Grew wr W → b' < W.heap.size ∧ W.cell? ⟨b', o' + q * 4, none⟩ = some (.int .i64 z.f) ∧ W.cell? ⟨b', o' + q * 4 + 1, none⟩ = some (.slice X' z.a.length x') ∧ W.cell? ⟨b', o' + q * 4 + 2, none⟩ = some (.int .i64 z.t) ∧ W.cell? ⟨b', o' + q * 4 + 3, none⟩ = some (.slice Y' z.b.length y')) := Lib.hid fun W hW => ⟨Nat.lt_of_lt_of_le hb' hW.size, cell_keep hW hb' c0', cell_keep hW hb' c1', cell_keep hW hb' c2', cell_keep hW hb' c3'⟩
      have HS1 : Hid (∀ W, Grew wr W → Gives Try.prog 19 #[.slice X z.a.length x, .slice X' z.a.length x'] W (.bool true)) := Lib.hid fun W hW => HSm.out _ _ _ _ _ W hcc.1 (rX.grew hW) (rX'.grew hW)
      have HS2 : Hid (∀ W, Grew wr W → Gives Try.prog 19 #[.slice Y z.b.length y, .slice Y' z.b.length y'] W (.bool true)) := Lib.hid fun W hW => HSm.out _ _ _ _ _ W hcc.2 (rY.grew hW) (rY'.grew hW)
      have e1 : (z.f != z.f) = false := by simp
      have e2 : (z.t != z.t) = false := by simp
      clear hb c0 c1 c2 c3 rX rY hb' c0' c1' c2' c3' rX' rY' hcc hq' RA RB HSm hc
      have hS0 : Grew wr wr.drew := (Grew.refl wr).drew
      go_upto_region 6 with fail
      refine wp_region_S (fun W => Grew wr W) (by kernel_rfl) ?_
      refine held_take 0 (v := ?_) rfl (by kernel_rfl) (by kernel_rfl) (by kernel_rfl) (fun _ _ _ h => h) (by rfl) ?_ hS0 ?_
      rotate_left
      · (intro W hW; obtain ⟨hb, c0, c1, c2, c3⟩ := HA.out _ hW; obtain ⟨hb', c0', c1', c2', c3'⟩ := HB.out _ hW; go_simp; with_reducible rfl)
      refine held_take 1 (v := ?_) rfl (by kernel_rfl) (by kernel_rfl) (by kernel_rfl) (fun _ _ _ h => h) (by rfl) ?_ hS0 ?_
      rotate_left
      · (intro W hW; obtain ⟨hb, c0, c1, c2, c3⟩ := HA.out _ hW; obtain ⟨hb', c0', c1', c2', c3'⟩ := HB.out _ hW; go_simp; with_reducible rfl)
      refine held_take 2 (v := ?_) rfl (by kernel_rfl) (by kernel_rfl) (by kernel_rfl) (fun _ _ _ h => h) (by rfl) ?_ hS0 ?_
      rotate_left
      · (intro W hW; obtain ⟨hb, c0, c1, c2, c3⟩ := HA.out _ hW; obtain ⟨hb', c0', c1', c2', c3'⟩ := HB.out _ hW; go_simp; with_reducible rfl)
      refine held_take 3 (v := ?_) rfl (by kernel_rfl) (by kernel_rfl) (by kernel_rfl) (fun _ _ _ h => h) (by rfl) ?_ hS0 ?_
      rotate_left
      · (intro W hW; obtain ⟨hb, c0, c1, c2, c3⟩ := HA.out _ hW; obtain ⟨hb', c0', c1', c2', c3'⟩ := HB.out _ hW; go_simp; with_reducible rfl)
      refine held_take 4 (v := ?_) rfl (by kernel_rfl) (by kernel_rfl) (by kernel_rfl) (fun _ _ _ h => h) (by rfl) ?_ hS0 ?_
      rotate_left
      · (intro W hW; obtain ⟨hb, c0, c1, c2, c3⟩ := HA.out _ hW; obtain ⟨hb', c0', c1', c2', c3'⟩ := HB.out _ hW; go_simp; with_reducible rfl)
      refine held_take 5 (v := ?_) rfl (by kernel_rfl) (by kernel_rfl) (by kernel_rfl) (fun _ _ _ h => h) (by rfl) ?_ hS0 ?_
      rotate_left
      · (intro W hW; obtain ⟨hb, c0, c1, c2, c3⟩ := HA.out _ hW; obtain ⟨hb', c0', c1', c2', c3'⟩ := HB.out _ hW; go_simp; with_reducible rfl)
      refine held_take 6 (v := ?_) rfl (by kernel_rfl) (by kernel_rfl) (by kernel_rfl) (fun _ _ _ h => h) (by rfl) ?_ hS0 ?_
      rotate_left
      · (intro W hW; obtain ⟨hb, c0, c1, c2, c3⟩ := HA.out _ hW; obtain ⟨hb', c0', c1', c2', c3'⟩ := HB.out _ hW; go_simp; with_reducible rfl)
      refine held_take 7 (v := ?_) rfl (by kernel_rfl) (by kernel_rfl) (by kernel_rfl) (fun _ _ _ h => h) (by rfl) ?_ hS0 ?_
      rotate_left
      · (intro W hW; obtain ⟨hb, c0, c1, c2, c3⟩ := HA.out _ hW; obtain ⟨hb', c0', c1', c2', c3'⟩ := HB.out _ hW; go_simp; with_reducible rfl)
      refine held_take 8 (v := ?_) rfl (by kernel_rfl) (by kernel_rfl) (by kernel_rfl) (fun _ _ _ h => h) (by rfl) ?_ hS0 ?_
      rotate_left
      · (intro W hW; obtain ⟨hb, c0, c1, c2, c3⟩ := HA.out _ hW; obtain ⟨hb', c0', c1', c2', c3'⟩ := HB.out _ hW; go_simp; with_reducible rfl)
      refine held_take 9 (v := ?_) rfl (by kernel_rfl) (by kernel_rfl) (by kernel_rfl) (fun _ _ _ h => h) (by rfl) ?_ hS0 ?_
      rotate_left
      · (intro W hW; obtain ⟨hb, c0, c1, c2, c3⟩ := HA.out _ hW; obtain ⟨hb', c0', c1', c2', c3'⟩ := HB.out _ hW; go_simp; with_reducible rfl)
      refine held_take 10 (v := ?_) rfl (by kernel_rfl) (by kernel_rfl) (by kernel_rfl) (fun _ _ _ h => h) (by rfl) ?_ hS0 ?_
      rotate_left
      · (intro W hW; obtain ⟨hb, c0, c1, c2, c3⟩ := HA.out _ hW; obtain ⟨hb', c0', c1', c2', c3'⟩ := HB.out _ hW; go_simp; with_reducible rfl)
      refine held_take 11 (v := ?_) rfl (by kernel_rfl) (by kernel_rfl) (by kernel_rfl) (fun _ _ _ h => h) (by rfl) ?_ hS0 ?_
      rotate_left
      · (intro W hW; obtain ⟨hb, c0, c1, c2, c3⟩ := HA.out _ hW; obtain ⟨hb', c0', c1', c2', c3'⟩ := HB.out _ hW; go_simp; with_reducible rfl)
      refine held_norm (a' := ?_) ?_ ?_
      rotate_left
      · (go_simp; with_reducible rfl)
      refine held_take 12 (v := ?_) rfl (by kernel_rfl) (by kernel_rfl) (by kernel_rfl) (fun _ _ _ h => h) (by rfl) ?_ hS0 ?_
      rotate_left
      · (intro W hW; obtain ⟨hb, c0, c1, c2, c3⟩ := HA.out _ hW; go_simp; with_reducible rfl)
      refine held_take 13 (v := ?_) rfl (by kernel_rfl) (by kernel_rfl) (by kernel_rfl) (fun _ _ _ h => h) (by rfl) ?_ hS0 ?_
      rotate_left
      · (intro W hW; obtain ⟨hb, c0, c1, c2, c3⟩ := HA.out _ hW; go_simp; with_reducible rfl)
      refine held_take 14 (v := ?_) rfl (by kernel_rfl) (by kernel_rfl) (by kernel_rfl) (fun _ _ _ h => h) (by rfl) ?_ hS0 ?_
      rotate_left
      · (intro W hW; obtain ⟨hb, c0, c1, c2, c3⟩ := HA.out _ hW; go_simp; with_reducible rfl)
      refine held_take 15 (v := ?_) rfl (by kernel_rfl) (by kernel_rfl) (by kernel_rfl) (fun _ _ _ h => h) (by rfl) ?_ hS0 ?_
      rotate_left
      · (intro W hW; obtain ⟨hb, c0, c1, c2, c3⟩ := HA.out _ hW; go_simp; with_reducible rfl)
      refine held_norm (a' := ?_) ?_ ?_
      rotate_left
      · (go_simp; with_reducible rfl)
      refine held_take 16 (v := ?_) rfl (by kernel_rfl) (by kernel_rfl) (by kernel_rfl) (fun _ _ _ h => h) (by rfl) ?_ hS0 ?_
      rotate_left
      · (intro W hW; obtain ⟨hb, c0, c1, c2, c3⟩ := HA.out _ hW; obtain ⟨hb', c0', c1', c2', c3'⟩ := HB.out _ hW; go_simp; with_reducible rfl)
      refine held_take 17 (v := ?_) rfl (by kernel_rfl) (by kernel_rfl) (by kernel_rfl) (fun _ _ _ h => h) (by rfl) ?_ hS0 ?_
      rotate_left
      · (intro W hW; obtain ⟨hb, c0, c1, c2, c3⟩ := HA.out _ hW; obtain ⟨hb', c0', c1', c2', c3'⟩ := HB.out _ hW; go_simp; with_reducible rfl)
      refine held_take 18 (v := ?_) rfl (by kernel_rfl) (by kernel_rfl) (by kernel_rfl) (fun _ _ _ h => h) (by rfl) ?_ hS0 ?_
      rotate_left
      · (intro W hW; obtain ⟨hb, c0, c1, c2, c3⟩ := HA.out _ hW; obtain ⟨hb', c0', c1', c2', c3'⟩ := HB.out _ hW; go_simp; with_reducible rfl)
      refine held_take 19 (v := ?_) rfl (by kernel_rfl) (by kernel_rfl) (by kernel_rfl) (fun _ _ _ h => h) (by rfl) ?_ hS0 ?_
      rotate_left
      · (intro W hW; obtain ⟨hb, c0, c1, c2, c3⟩ := HA.out _ hW; obtain ⟨hb', c0', c1', c2', c3'⟩ := HB.out _ hW; go_simp; with_reducible rfl)
      refine held_norm (a' := ?_) ?_ ?_
      rotate_left
      · (go_simp; with_reducible rfl)
      refine held_take 20 (v := ?_) rfl (by kernel_rfl) (by kernel_rfl) (by kernel_rfl) (fun _ _ _ h => h) (by rfl) ?_ hS0 ?_
      rotate_left
      · (intro W hW; obtain ⟨hb', c0', c1', c2', c3'⟩ := HB.out _ hW; go_simp; with_reducible rfl)
      refine held_take 21 (v := ?_) rfl (by kernel_rfl) (by kernel_rfl) (by kernel_rfl) (fun _ _ _ h => h) (by rfl) ?_ hS0 ?_
      rotate_left
      · (intro W hW; obtain ⟨hb', c0', c1', c2', c3'⟩ := HB.out _ hW; go_simp; with_reducible rfl)
      refine held_take 22 (v := ?_) rfl (by kernel_rfl) (by kernel_rfl) (by kernel_rfl) (fun _ _ _ h => h) (by rfl) ?_ hS0 ?_
      rotate_left
      · (intro W hW; obtain ⟨hb', c0', c1', c2', c3'⟩ := HB.out _ hW; go_simp; with_reducible rfl)
      refine held_norm (a' := ?_) ?_ ?_
      rotate_left
      · (go_simp; with_reducible rfl)
      refine held_take 23 (v := ?_) rfl (by kernel_rfl) (by kernel_rfl) (by kernel_rfl) (fun _ _ _ h => h) (by rfl) ?_ hS0 ?_
      rotate_left
      · (intro W hW; skip; go_simp; with_reducible rfl)
      refine held_take 24 (v := ?_) rfl (by kernel_rfl) (by kernel_rfl) (by kernel_rfl) (fun _ _ _ h => h) (by rfl) ?_ hS0 ?_
      rotate_left
      · (intro W hW; skip; go_simp; with_reducible rfl)
      refine held_norm (a' := ?_) ?_ ?_
      rotate_left
      · (go_simp; with_reducible rfl)
      refine held_take 25 (v := ?_) rfl (by kernel_rfl) (by kernel_rfl) (by kernel_rfl) (fun _ _ _ h => h) (by rfl) ?_ hS0 ?_
      rotate_left
      · (intro W hW; obtain ⟨hb, c0, c1, c2, c3⟩ := HA.out _ hW; go_simp; with_reducible rfl)
      refine held_take 26 (v := ?_) rfl (by kernel_rfl) (by kernel_rfl) (by kernel_rfl) (fun _ _ _ h => h) (by rfl) ?_ hS0 ?_
      rotate_left
      · (intro W hW; obtain ⟨hb, c0, c1, c2, c3⟩ := HA.out _ hW; go_simp; with_reducible rfl)
      refine held_take 27 (v := ?_) rfl (by kernel_rfl) (by kernel_rfl) (by kernel_rfl) (fun _ _ _ h => h) (by rfl) ?_ hS0 ?_
      rotate_left
      · (intro W hW; obtain ⟨hb, c0, c1, c2, c3⟩ := HA.out _ hW; go_simp; with_reducible rfl)
      refine held_take 28 (v := ?_) rfl (by kernel_rfl) (by kernel_rfl) (by kernel_rfl) (fun _ _ _ h => h) (by rfl) ?_ hS0 ?_
      rotate_left
      · (intro W hW; obtain ⟨hb, c0, c1, c2, c3⟩ := HA.out _ hW; go_simp; with_reducible rfl)
      refine held_norm (a' := ?_) ?_ ?_
      rotate_left
      · (go_simp; with_reducible rfl)
      refine held_take 29 (v := ?_) rfl (by kernel_rfl) (by kernel_rfl) (by kernel_rfl) (fun _ _ _ h => h) (by rfl) ?_ hS0 ?_
      rotate_left
      · (intro W hW; obtain ⟨hb, c0, c1, c2, c3⟩ := HA.out _ hW; obtain ⟨hb', c0', c1', c2', c3'⟩ := HB.out _ hW; go_simp; with_reducible rfl)
      refine held_take 30 (v := ?_) rfl (by kernel_rfl) (by kernel_rfl) (by kernel_rfl) (fun _ _ _ h => h) (by rfl) ?_ hS0 ?_
      rotate_left
      · (intro W hW; obtain ⟨hb, c0, c1, c2, c3⟩ := HA.out _ hW; obtain ⟨hb', c0', c1', c2', c3'⟩ := HB.out _ hW; go_simp; with_reducible rfl)
      refine held_take 31 (v := ?_) rfl (by kernel_rfl) (by kernel_rfl) (by kernel_rfl) (fun _ _ _ h => h) (by rfl) ?_ hS0 ?_
      rotate_left
      · (intro W hW; obtain ⟨hb, c0, c1, c2, c3⟩ := HA.out _ hW; obtain ⟨hb', c0', c1', c2', c3'⟩ := HB.out _ hW; go_simp; with_reducible rfl)
      refine held_take 32 (v := ?_) rfl (by kernel_rfl) (by kernel_rfl) (by kernel_rfl) (fun _ _ _ h => h) (by rfl) ?_ hS0 ?_
      rotate_left
      · (intro W hW; obtain ⟨hb, c0, c1, c2, c3⟩ := HA.out _ hW; obtain ⟨hb', c0', c1', c2', c3'⟩ := HB.out _ hW; go_simp; with_reducible rfl)
      refine held_norm (a' := ?_) ?_ ?_
      rotate_left
      · (go_simp; with_reducible rfl)
      refine held_take 33 (v := ?_) rfl (by kernel_rfl) (by kernel_rfl) (by kernel_rfl) (fun _ _ _ h => h) (by rfl) ?_ hS0 ?_
      rotate_left
      · (intro W hW; obtain ⟨hb', c0', c1', c2', c3'⟩ := HB.out _ hW; go_simp; with_reducible rfl)
      refine held_take 34 (v := ?_) rfl (by kernel_rfl) (by kernel_rfl) (by kernel_rfl) (fun _ _ _ h => h) (by rfl) ?_ hS0 ?_
      rotate_left
      · (intro W hW; obtain ⟨hb', c0', c1', c2', c3'⟩ := HB.out _ hW; go_simp; with_reducible rfl)
      refine held_norm (a' := ?_) ?_ ?_
      rotate_left
      · (go_simp; with_reducible rfl)
      refine held_call 35 (by kernel_rfl) rfl (by rfl) (fun K hK => ?_)
      go_simp
      go_wp2_with ((go_at_call 19; (with_reducible refine (HS1.out _ hS0).grows.mono ?_); rintro e5 w5 ⟨rfl, hg5⟩; have hS5 := hS0.trans hg5))
      refine hK.out _ _ hS5 ?_
      clear hK K
      refine held_take 36 (v := ?_) rfl (by kernel_rfl) (by kernel_rfl) (by kernel_rfl) (fun _ _ _ h => h) (by rfl) ?_ hS5 ?_
      rotate_left
      · (intro W hW; skip; go_simp; with_reducible rfl)
      refine held_take 37 (v := ?_) rfl (by kernel_rfl) (by kernel_rfl) (by kernel_rfl) (fun _ _ _ h => h) (by rfl) ?_ hS5 ?_
      rotate_left
      · (intro W hW; skip; go_simp; with_reducible rfl)
      refine held_take 38 (v := ?_) rfl (by kernel_rfl) (by kernel_rfl) (by kernel_rfl) (fun _ _ _ h => h) (by rfl) ?_ hS5 ?_
      rotate_left
      · (intro W hW; skip; go_simp; with_reducible rfl)
      refine held_norm (a' := ?_) ?_ ?_
      rotate_left
      · (go_simp; with_reducible rfl)
      refine held_take 39 (v := ?_) rfl (by kernel_rfl) (by kernel_rfl) (by kernel_rfl) (fun _ _ _ h => h) (by rfl) ?_ hS5 ?_
      rotate_left
      · (intro W hW; obtain ⟨hb, c0, c1, c2, c3⟩ := HA.out _ hW; go_simp; with_reducible rfl)
      refine held_take 40 (v := ?_) rfl (by kernel_rfl) (by kernel_rfl) (by kernel_rfl) (fun _ _ _ h => h) (by rfl) ?_ hS5 ?_
      rotate_left
      · (intro W hW; obtain ⟨hb, c0, c1, c2, c3⟩ := HA.out _ hW; go_simp; with_reducible rfl)
      refine held_take 41 (v := ?_) rfl (by kernel_rfl) (by kernel_rfl) (by kernel_rfl) (fun _ _ _ h => h) (by rfl) ?_ hS5 ?_
      rotate_left
      · (intro W hW; obtain ⟨hb, c0, c1, c2, c3⟩ := HA.out _ hW; go_simp; with_reducible rfl)
      refine held_take 42 (v := ?_) rfl (by kernel_rfl) (by kernel_rfl) (by kernel_rfl) (fun _ _ _ h => h) (by rfl) ?_ hS5 ?_
      rotate_left
      · (intro W hW; obtain ⟨hb, c0, c1, c2, c3⟩ := HA.out _ hW; go_simp; with_reducible rfl)
      refine held_norm (a' := ?_) ?_ ?_
      rotate_left
      · (go_simp; with_reducible rfl)
      refine held_take 43 (v := ?_) rfl (by kernel_rfl) (by kernel_rfl) (by kernel_rfl) (fun _ _ _ h => h) (by rfl) ?_ hS5 ?_
      rotate_left
      · (intro W hW; obtain ⟨hb, c0, c1, c2, c3⟩ := HA.out _ hW; obtain ⟨hb', c0', c1', c2', c3'⟩ := HB.out _ hW; go_simp; with_reducible rfl)
      refine held_take 44 (v := ?_) rfl (by kernel_rfl) (by kernel_rfl) (by kernel_rfl) (fun _ _ _ h => h) (by rfl) ?_ hS5 ?_
      rotate_left
      · (intro W hW; obtain ⟨hb, c0, c1, c2, c3⟩ := HA.out _ hW; obtain ⟨hb', c0', c1', c2', c3'⟩ := HB.out _ hW; go_simp; with_reducible rfl)
      refine held_take 45 (v := ?_) rfl (by kernel_rfl) (by kernel_rfl) (by kernel_rfl) (fun _ _ _ h => h) (by rfl) ?_ hS5 ?_
      rotate_left
      · (intro W hW; obtain ⟨hb, c0, c1, c2, c3⟩ := HA.out _ hW; obtain ⟨hb', c0', c1', c2', c3'⟩ := HB.out _ hW; go_simp; with_reducible rfl)
      refine held_take 46 (v := ?_) rfl (by kernel_rfl) (by kernel_rfl) (by kernel_rfl) (fun _ _ _ h => h) (by rfl) ?_ hS5 ?_
      rotate_left
      · (intro W hW; obtain ⟨hb, c0, c1, c2, c3⟩ := HA.out _ hW; obtain ⟨hb', c0', c1', c2', c3'⟩ := HB.out _ hW; go_simp; with_reducible rfl)
      refine held_norm (a' := ?_) ?_ ?_
      rotate_left
      · (go_simp; with_reducible rfl)
      refine held_take 47 (v := ?_) rfl (by kernel_rfl) (by kernel_rfl) (by kernel_rfl) (fun _ _ _ h => h) (by rfl) ?_ hS5 ?_
      rotate_left
      · (intro W hW; obtain ⟨hb', c0', c1', c2', c3'⟩ := HB.out _ hW; go_simp; with_reducible rfl)
      refine held_take 48 (v := ?_) rfl (by kernel_rfl) (by kernel_rfl) (by kernel_rfl) (fun _ _ _ h => h) (by rfl) ?_ hS5 ?_
      rotate_left
      · (intro W hW; obtain ⟨hb', c0', c1', c2', c3'⟩ := HB.out _ hW; go_simp; with_reducible rfl)
      refine held_norm (a' := ?_) ?_ ?_
      rotate_left
      · (go_simp; with_reducible rfl)
      refine held_call 49 (by kernel_rfl) rfl (by rfl) (fun K hK => ?_)
      go_simp
      go_wp2_with ((go_at_call 19; (with_reducible refine (HS2.out _ hS5).grows.mono ?_); rintro e6 w6 ⟨rfl, hg6⟩; have hS6 := hS5.trans hg6))
      refine hK.out _ _ hS6 ?_
      clear hK K
      refine held_take 50 (v := ?_) rfl (by kernel_rfl) (by kernel_rfl) (by kernel_rfl) (fun _ _ _ h => h) (by rfl) ?_ hS6 ?_
      rotate_left
      · (intro W hW; skip; go_simp; with_reducible rfl)
      refine held_take 51 (v := ?_) rfl (by kernel_rfl) (by kernel_rfl) (by kernel_rfl) (fun _ _ _ h => h) (by rfl) ?_ hS6 ?_
      rotate_left
      · (intro W hW; skip; go_simp; with_reducible rfl)
      refine held_norm (a' := ?_) ?_ ?_
      rotate_left
      · (go_simp; with_reducible rfl)
      refine held_done (by kernel_rfl) ?_
      have HG6 := Lib.hid (HG.out.trans hS6)
      clear hS6 hg6 hS5 hg5 hS0
      go_wp2_with fail
      exact ⟨⟨q + 1, by omega, by go_num, HG6.out⟩, by simp only [intOf]; omega⟩
    · obtain rfl : q = ll := by omega
      go_wp2
      go_ret
      exact ⟨rfl, HG.out⟩
end Go.Proofs.Ytoaciliojdaoaaa

/- Layer 31: the page's example. No condition. -/
namespace Go.Proofs.Ytoaciliojdaoaaa
open Go.RowKit
attribute [local go_sem] more_cell more_frozen more_more more_setCell more_of_drew more_of_drewN lt_more le_more past_cell past_cell2 past_frozen past_frozen2 past_setCell past_setCell2 mid_cell mid_frozen mid_setCell
attribute [local go_sem ↓] Go.wp_at_zero Go.wp_at_succ

def s31 (j : Int) : List Fr := [⟨0, ⟨#[97]⟩, ⟨#[]⟩, z16⟩, ⟨j, ⟨#[98]⟩, ⟨#[]⟩, e16⟩]
theorem parts_e16 : partsX e16 = [e16] := partsX_one (by decide) (Or.inl (by decide))
theorem parts_z16 : partsX z16 = [] := partsX_zero (by decide)
theorem edge_e16 : (edgeP e16).1 = ⟨0, 0, 1, 0⟩ ∧ (edgeP e16).2 = true := ⟨rfl, rfl⟩
theorem all31a : allX (s31 1) z16 2 = [e16] := by
  unfold allX allP
  simp only [s31, List.take_succ_cons, List.take_zero, List.drop_succ_cons, List.drop_zero, List.map_cons, List.map_nil, List.flatten_cons, List.flatten_nil]
  rw [parts_e16, parts_z16]
  rfl
theorem norm31a : (normX (s31 1) z16).edges = [⟨0, 0, 1, 0⟩] ∧ (normX (s31 1) z16).late = [] ∧ (normX (s31 1) z16).scan.length = 2 := by
  have hc : coreN (s31 1) = 2 := by decide
  unfold normX
  rw [hc, all31a]
  refine ⟨?_, rfl, nS_len _ _⟩
  show nE _ _ = _
  unfold nE
  simp [wh_e16, edge_e16.1]
theorem norm31b : (normX (s31 2) z16).edges = [] ∧ (normX (s31 2) z16).late = [⟨1, 2, [⟨0, 0, 1, 0⟩], [], []⟩] ∧ (normX (s31 2) z16).scan.length = 1 := by
  have hc : coreN (s31 2) = 1 := by decide
  have ha : allX (s31 2) z16 1 = [] := by
    unfold allX allP
    simp only [s31, List.take_succ_cons, List.take_zero, List.drop_succ_cons, List.drop_zero, List.map_nil, List.flatten_nil]
    rw [parts_z16]
    rfl
  have hk : isK 1 e16 = true := by decide
  unfold normX
  rw [hc, ha]
  refine ⟨rfl, ?_, nS_len _ _⟩
  show [lateX ⟨2, ⟨#[98]⟩, ⟨#[]⟩, e16⟩ ((1 + 0 : Nat) : Int)] = _
  unfold lateX ltK ltS ltR
  rw [parts_e16]
  simp [hk, edge_e16.1]
theorem nodes31 (j : Int) : ∀ f ∈ s31 j, f.on.nodes ≤ 200 := by
  intro f hf
  simp only [s31, List.mem_cons, List.not_mem_nil, or_false] at hf
  rcases hf with rfl | rfl
  · exact (by decide : z16.nodes ≤ 200)
  · exact (by decide : e16.nodes ≤ 200)
theorem fr31 {R : Rw} {b1 : Nat} (j : Int) (hz : ExsR R none z16.l) (he : ExsR R (some ⟨b1, 0, none⟩) e16.l) : ListR (FrR R) 12 (s31 j) [Value.int .i64 0 :: .string ⟨#[97]⟩ :: .string ⟨#[]⟩ :: exC z16 none 0, Value.int .i64 j :: .string ⟨#[98]⟩ :: .string ⟨#[]⟩ :: exC e16 (some ⟨b1, 0, none⟩) 2] := by
  have h := ((ListR.nil (R := FrR R) (size := 12)).snoc (x := ⟨0, ⟨#[97]⟩, ⟨#[]⟩, z16⟩) ⟨none, 0, rfl, hz⟩ rfl).snoc (x := ⟨j, ⟨#[98]⟩, ⟨#[]⟩, e16⟩) ⟨_, 2, rfl, he⟩ rfl
  exact h
/-- Two numbers side by side lie in no block that holds slices behind a first number. -/
theorem two_off {w : World} {b : Nat} {z : Int} {A : Option Addr} {p q : Int} {rest : List Value} (h : Row w A (.int .i64 p :: .int .i64 q :: rest)) (hb : Blok w b 37 #[.int .i64 z, .slice none 0 0, .slice none 0 0, .slice none 0 0, .slice none 0 0, .slice none 0 0]) : ∀ a, A = some a → a.block ≠ b := by
  intro a ha e
  obtain ⟨b', o, hA, _, hc⟩ := h.at_ (k := 1) (by simp)
  rw [ha] at hA
  cases hA
  simp only at e
  subst e
  rw [hb.cell (o + 1)] at hc
  rcases o with _ | _ | _ | _ | _ | o <;> simp at hc
theorem eds_far {w w' : World} {b : Nat} {z : Int} {A : Option Addr} {l : List Ed} (h : EdsR (PRow w) A l) (hb : Blok w b 37 #[.int .i64 z, .slice none 0 0, .slice none 0 0, .slice none 0 0, .slice none 0 0, .slice none 0 0]) (k : Turns w w' b) : EdsR (PRow w') A l := by
  obtain ⟨css, h1, h2⟩ := h
  refine ⟨css, h1, ?_⟩
  rcases l with _ | ⟨e, l⟩
  · have : css = [] := by have := h1.1; simpa using this
    subst this
    exact Or.inl rfl
  · rcases css with _ | ⟨cs, css⟩
    · have := h1.1; simp at this
    · obtain ⟨hx, _⟩ := h1.2 0 e cs rfl rfl
      have hx' : cs = [.int .i64 e.a, .int .i64 e.ac, .int .i64 e.b, .int .i64 e.bc] := hx
      subst hx'
      have h2' : Row w A (.int .i64 e.a :: .int .i64 e.ac :: (.int .i64 e.b :: .int .i64 e.bc :: css.flatten)) := h2
      exact Row.turns h2 k (two_off h2' hb)
theorem exs_far (w' : World) (A : Option Addr) : ExsR (PRow w') A [] := by
  exact ⟨[], ListR.nil, Or.inl rfl⟩
theorem ListR.mapL {α : Type} {R R' : α → List Value → Prop} {size : Nat} {l : List α} {css : List (List Value)} (h : ListR R size l css) (H : ∀ x ∈ l, ∀ cs, R x cs → R' x cs) : ListR R' size l css :=
  ⟨h.1, fun i x cs h1 h2 => ⟨H x (List.mem_of_getElem? h1) _ (h.2 i x cs h1 h2).1, (h.2 i x cs h1 h2).2⟩⟩
theorem las_far {w w' : World} {b : Nat} {z : Int} {A : Option Addr} {l : List La} (hl : ∀ x ∈ l, x.scan = [] ∧ x.rest = []) (h : LasR (PRow w) A l) (hb : Blok w b 37 #[.int .i64 z, .slice none 0 0, .slice none 0 0, .slice none 0 0, .slice none 0 0, .slice none 0 0]) (k : Turns w w' b) : LasR (PRow w') A l := by
  obtain ⟨css, h1, h2⟩ := h
  refine ⟨css, h1.mapL fun x hx cs hc => ?_, ?_⟩
  · obtain ⟨A, ka, B, j, C, c, e, q1, q2, q3⟩ := hc
    obtain ⟨e1, e2⟩ := hl x hx
    exact ⟨A, ka, B, j, C, c, e, eds_far q1 hb k, by rw [e1]; exact exs_far _ _, by rw [e2]; exact exs_far _ _⟩
  · rcases l with _ | ⟨e, l⟩
    · have : css = [] := by have := h1.1; simpa using this
      subst this
      exact Or.inl rfl
    · rcases css with _ | ⟨cs, css⟩
      · have := h1.1; simp at this
      · obtain ⟨hx, _⟩ := h1.2 0 e cs rfl rfl
        obtain ⟨A', ka, B, j, C, c, rfl, _⟩ := hx
        exact Row.turns h2 k (two_off (p := e.table) (q := e.join) (rest := _) h2 hb)
def TwoF (w : World) (x : Nm) (e : Ending) (w' : World) : Prop := ∃ A k B j C c D d E f, e = .returned (.agg (nmC x A k B j C c D d E f)) ∧ Grew w w' ∧ LasR (PRow w') D x.late ∧ EdsR (PRow w') B x.edges
theorem grew_set6 {u w : World} (h : Grew u w) {g : Nat} (hg : u.heap.size ≤ g) (b0 b1 b2 b3 b4 b5 : Value) : Grew u ((((((w.setCell ⟨g, 0, none⟩ b0).setCell ⟨g, 1, none⟩ b1).setCell ⟨g, 2, none⟩ b2).setCell ⟨g, 3, none⟩ b3).setCell ⟨g, 4, none⟩ b4).setCell ⟨g, 5, none⟩ b5) :=
  Grew.setCell (Grew.setCell (Grew.setCell (Grew.setCell (Grew.setCell (Grew.setCell h hg _) hg _) hg _) hg _) hg _) hg _
theorem blok6 {w : World} {g : Nat} {c0 c1 c2 c3 c4 c5 : Value} (h : Blok w g 37 #[c0, c1, c2, c3, c4, c5]) (b0 b1 b2 b3 b4 b5 : Value) : Blok ((((((w.setCell ⟨g, 0, none⟩ b0).setCell ⟨g, 1, none⟩ b1).setCell ⟨g, 2, none⟩ b2).setCell ⟨g, 3, none⟩ b3).setCell ⟨g, 4, none⟩ b4).setCell ⟨g, 5, none⟩ b5) g 37 #[b0, b1, b2, b3, b4, b5] := by
  have := (((((h.set 0 b0).set 1 b1).set 2 b2).set 3 b3).set 4 b4).set 5 b5
  simpa using this
set_option maxHeartbeats 8000000 in
set_option maxRecDepth 100000 in
theorem two31_any (j : Int) (hl : ∀ x ∈ (normX (s31 j) z16).late, x.scan = [] ∧ x.rest = []) (w : World) : Calls Try.prog 22 #[.int .i64 j] w (TwoF w (normX (s31 j) z16)) := by
  have HLl := Lib.hid hl
  clear hl
  go_enter Try.func22, Try.ntmps22
  go_wp2_with fail
  refine (nrof_any [] (s31 j) z16 [] none 0 (some ⟨w.heap.size + 1 + 1 + 1, 0, none⟩) 2 none 0 none 0 _ (by simp [s31]) (nodes31 j) (by decide) ⟨_, fr31 (b1 := w.heap.size + 1) j (exs_nil _) ⟨_, two16 (exs_nil _) (exs_nil _), ?r1⟩, ?r2⟩ (exs_nil _)).mono ?_
  case r1 => exact (row_new (w.alloc _) _ (w.heap.size + 1) _ (by simp)).grew (((Grew.refl _).alloc _).alloc _)
  case r2 => exact row_new (((w.alloc _).alloc _).alloc _) _ (w.heap.size + 1 + 1 + 1) _ (by simp)
  rintro e w6 ⟨A, k, B, j', C, c, D, d, E, f, rfl, hg, hm⟩
  have HB : Hid (Blok w6 w.heap.size 37 #[.int .i64 0, .slice none 0 0, .slice none 0 0, .slice none 0 0, .slice none 0 0, .slice none 0 0]) := Lib.hid (((((Blok.new _ _ _ _ rfl).alloc _).alloc _).alloc _).grew hg)
  have HG : Hid (Grew w w6) := Lib.hid (((((Grew.refl w).alloc _).alloc _).alloc _ |>.alloc _).trans hg)
  have HLa := Lib.hid hm.late
  have HEd := Lib.hid hm.edges
  clear hm hg
  generalize normX (s31 j) z16 = x at *
  unfold TwoF
  generalize hb : w.heap.size = b at *
  have HGb := Lib.hid (Nat.le_of_eq hb)
  clear hb
  unfold nmC
  obtain ⟨xl, x0, x1, x2, x3, x4, x5⟩ := nm_in HB.out
  have f0 := HB.out.thaw 0
  have f1 := HB.out.thaw 1
  have f2 := HB.out.thaw 2
  have f3 := HB.out.thaw 3
  have f4 := HB.out.thaw 4
  have f5 := HB.out.thaw 5
  have HT : Hid (Turns w6 ((((((w6.setCell ⟨b, 0, none⟩ (.int .i64 x.core)).setCell ⟨b, 1, none⟩ (.slice A x.scan.length k)).setCell ⟨b, 2, none⟩ (.slice B x.edges.length j')).setCell ⟨b, 3, none⟩ (.slice C x.rest.length c)).setCell ⟨b, 4, none⟩ (.slice D x.late.length d)).setCell ⟨b, 5, none⟩ (.slice E x.wh.length f)) b) := Lib.hid ((((((((Turns.refl w6 b).set 0 _).set 1 _).set 2 _).set 3 _).set 4 _).set 5 _))
  have HLf := Lib.hid (las_far HLl.out HLa.out HB.out HT.out)
  have HEf := Lib.hid (eds_far HEd.out HB.out HT.out)
  have HGf := Lib.hid (grew_set6 HG.out HGb.out (.int .i64 x.core) (.slice A x.scan.length k) (.slice B x.edges.length j') (.slice C x.rest.length c) (.slice D x.late.length d) (.slice E x.wh.length f))
  have hb6 := blok6 HB.out (.int .i64 x.core) (.slice A x.scan.length k) (.slice B x.edges.length j') (.slice C x.rest.length c) (.slice D x.late.length d) (.slice E x.wh.length f)
  have HB6 := Lib.hid hb6
  clear hb6 HT HLa HEd
  go_wp2
  clear f0 f1 f2 f3 f4 f5 xl x0 x1 x2 x3 x4 x5
  generalize ((((((w6.setCell ⟨b, 0, none⟩ (.int .i64 x.core)).setCell ⟨b, 1, none⟩ (.slice A x.scan.length k)).setCell ⟨b, 2, none⟩ (.slice B x.edges.length j')).setCell ⟨b, 3, none⟩ (.slice C x.rest.length c)).setCell ⟨b, 4, none⟩ (.slice D x.late.length d)).setCell ⟨b, 5, none⟩ (.slice E x.wh.length f)) = wf at *
  obtain ⟨_, r0, r1, r2, r3, r4, r5⟩ := nm_in HB6.out
  exact bodyPost_ret (v := .agg (nmC x A k B j' C c D d E f)) (by simp [nmC, results, Try.results22, go_sem, r0, r1, r2, r3, r4, r5]) rfl ⟨A, k, B, j', C, c, D, d, E, f, rfl, HGf.out, HLf.out, HEf.out⟩
end Go.Proofs.Ytoaciliojdaoaaa

/- Layer 31: the page's example, walked. No condition. -/
namespace Go.Proofs.Ytoaciliojdaoaaa
open Go.RowKit
attribute [local go_sem] more_cell more_frozen more_more more_setCell more_of_drew more_of_drewN lt_more le_more past_cell past_cell2 past_frozen past_frozen2 past_setCell past_setCell2 mid_cell mid_frozen mid_setCell
attribute [local go_sem ↓] Go.wp_at_zero Go.wp_at_succ

theorem all31_one : (allI (clI (clsE [⟨0, 0, 1, 0⟩])) 2 [] [0, 1]).map fvF = [⟨1, 0, [0], [0]⟩] := by kernel_rfl
theorem all31_two : (allI (clI (clsE [])) 1 [⟨1, 2, [⟨0, 0, 1, 0⟩], [], []⟩] [0]).map fvF = [] := by kernel_rfl
/-- What the example's two queries tell. -/
def TwoA (w : World) (n ne ll : Nat) (es : List Ed) (l : List La) (e : Ending) (w' : World) : Prop := ∃ core A k B j C p c D d E q f, e = .returned (.agg #[.int .i64 core, .slice A n k, .slice B ne j, .slice C p c, .slice D ll d, .slice E q f]) ∧ Grew w w' ∧ LasR (PRow w') D l ∧ EdsR (PRow w') B es
set_option maxHeartbeats 8000000 in
set_option maxRecDepth 100000 in
theorem live31_any (w : World) : Gives Try.prog 7 #[] w (.bool true) := by
  have HT1 : Hid (∀ W, Calls Try.prog 22 #[.int .i64 1] W (TwoA W 2 1 0 [⟨0, 0, 1, 0⟩] [])) := Lib.hid fun W => by
    have hn := norm31a
    refine (two31_any 1 (by rw [hn.2.1]; simp) W).mono ?_
    generalize normX (s31 1) z16 = x at *
    obtain ⟨core, scan, edges, rest, late, wh⟩ := x
    obtain ⟨h1, h2, h3⟩ := hn
    simp only at h1 h2 h3
    subst h1 h2
    rintro e w' ⟨A, k, B, j, C, c, D, d, E, f, rfl, hg, hl, he⟩
    refine ⟨core, A, k, B, j, C, rest.length, c, D, d, E, wh.length, f, ?_, hg, hl, he⟩
    unfold nmC
    simp only [h3]
    rfl
  have HT2 : Hid (∀ W, Calls Try.prog 22 #[.int .i64 2] W (TwoA W 1 0 1 [] [⟨1, 2, [⟨0, 0, 1, 0⟩], [], []⟩])) := Lib.hid fun W => by
    have hn := norm31b
    refine (two31_any 2 (by rw [hn.2.1]; simp) W).mono ?_
    generalize normX (s31 2) z16 = x at *
    obtain ⟨core, scan, edges, rest, late, wh⟩ := x
    obtain ⟨h1, h2, h3⟩ := hn
    simp only at h1 h2 h3
    subst h1 h2
    rintro e w' ⟨A, k, B, j, C, c, D, d, E, f, rfl, hg, hl, he⟩
    refine ⟨core, A, k, B, j, C, rest.length, c, D, d, E, wh.length, f, ?_, hg, hl, he⟩
    unfold nmC
    simp only [h3]
    rfl
  have HA1 : Hid (∀ core A k B j C p c D d E q f S ks W, LasR (PRow W) D [] → EdsR (PRow W) B [⟨0, 0, 1, 0⟩] → Row W S [.int .i64 0, .int .i64 1] → Calls Try.prog 9 #[.agg #[.int .i64 core, .slice A 2 k, .slice B 1 j, .slice C p c, .slice D 0 d, .slice E q f], .slice S 2 ks] W (FlsF W [⟨1, 0, [0], [0]⟩])) := Lib.hid fun core A k B j C p c D d E q f S ks W hl he hs => by
    have := pall_any core [⟨0, 0, 1, 0⟩] [] [0, 1] S ks A 2 k B j C p c D d E q f W (by decide) (by decide) (fun x hx => by cases hx) (by decide) hl he hs
    rwa [all31_one] at this
  have HA2 : Hid (∀ core A k B j C p c D d E q f S ks W, LasR (PRow W) D [⟨1, 2, [⟨0, 0, 1, 0⟩], [], []⟩] → EdsR (PRow W) B [] → Row W S [.int .i64 0] → Calls Try.prog 9 #[.agg #[.int .i64 core, .slice A 1 k, .slice B 0 j, .slice C p c, .slice D 1 d, .slice E q f], .slice S 1 ks] W (FlsF W [])) := Lib.hid fun core A k B j C p c D d E q f S ks W hl he hs => by
    have := pall_any core [] [⟨1, 2, [⟨0, 0, 1, 0⟩], [], []⟩] [0] S ks A 1 k B j C p c D d E q f W (by decide) (by decide) (fun x hx => by rw [List.mem_singleton.1 hx]; decide) (by decide) hl he hs
    rwa [all31_two] at this
  unfold Gives
  go_enter Try.func7, Try.ntmps7
  go_upto_region 2 with (first | (go_at_call 22; (with_reducible refine (HT1.out _).mono ?_); rintro e2 w2 ⟨core, A, k, B, j, C, p, c, D, d, E, q, f, rfl, hg2, hl2, he2⟩; have HG2 := Lib.hid hg2; have HL2 := Lib.hid hl2; have HE2 := Lib.hid he2; clear hg2 hl2 he2) | (go_at_call 9; (with_reducible refine (HA1.out _ _ _ _ _ _ _ _ _ _ _ _ _ _ _ _ (HL2.out.grew ((Grew.refl _).alloc _)) (HE2.out.grew ((Grew.refl _).alloc _)) (row_new _ _ _ _ rfl)).mono ?_); rintro e3 w3 ⟨A3, k3, rfl, hg3, hf3⟩; have HG3 := Lib.hid ((HG2.out.alloc (.cells #[.int .i64 0, .int .i64 1] 3)).trans hg3); have HF3 := Lib.hid hf3; clear hg3 hf3))
  obtain ⟨b, o, X, x, Y, y, rfl, hb, c0, c1, c2, c3, _, _⟩ := fvsR_at HF3.out (i := 0) (by decide)
  simp only [List.getElem_cons_zero, Nat.zero_mul, Nat.add_zero] at c0 c1 c2 c3
  clear HT1 HA1 HF3 HG2 HL2 HE2
  go_wp2_with (first | (go_at_call 22; (with_reducible refine (HT2.out _).mono ?_); rintro e4 w4 ⟨core', A', k', B', j', C', p', c', D', d', E', q', f', rfl, hg4, hl4, he4⟩; have HG4 := Lib.hid (HG3.out.trans hg4); have HL4 := Lib.hid hl4; have HE4 := Lib.hid he4; clear hg4 hl4 he4) | (go_at_call 9; (with_reducible refine (HA2.out _ _ _ _ _ _ _ _ _ _ _ _ _ _ _ _ (HL4.out.grew ((Grew.refl _).alloc _)) (HE4.out.grew ((Grew.refl _).alloc _)) (row_new _ _ _ _ rfl)).mono ?_); rintro e5 w5 ⟨A5, k5, rfl, hg5, hf5⟩; have HG5 := Lib.hid ((HG4.out.alloc (.cells #[.int .i64 0] 3)).trans hg5); clear hg5 hf5))
  go_ret
  exact ⟨rfl, HG5.out⟩
end Go.Proofs.Ytoaciliojdaoaaa

/- Layers 16 and 31: a query's tables behind the core; what holds of each filter that there may be. No condition. -/
namespace Go.Proofs.Ytoaciliojdaoaaa
open Go.RowKit

theorem n31_scan (sr : List Fr) (wh : Ex) : (normX sr wh).scan.length = coreN sr := nS_len _ _
theorem n31_late (sr : List Fr) (wh : Ex) : (normX sr wh).late.length = sr.length - coreN sr := latesX_len _ _ _
theorem n31_sum (sr : List Fr) (wh : Ex) : (normX sr wh).scan.length + (normX sr wh).late.length = sr.length := by
  rw [n31_scan, n31_late]
  have := coreN_le sr
  omega
theorem n31_keys {sr : List Fr} (wh : Ex) (hn : ∀ f ∈ sr, f.on.nodes ≤ 200) : ∀ x ∈ (normX sr wh).late, x.keys.length ≤ 200 := by
  intro y hm
  change y ∈ latesX _ _ _ at hm
  obtain ⟨i, hi, rfl⟩ := List.mem_map.1 hm
  have hi' : coreN sr + i < sr.length := by have := List.mem_range.1 hi; omega
  have hfr := hn _ (List.getElem_mem hi')
  have e : sr.getD (coreN sr + i) default = sr[coreN sr + i] := by simp [List.getD, hi']
  rw [e]
  show (ltK _ _).length ≤ _
  unfold ltK
  rw [List.length_map]
  have h1 := List.length_filter_le (isK ((coreN sr + i : Nat) : Int)) (partsX sr[coreN sr + i].on)
  have h2 := partsX_len sr[coreN sr + i].on
  omega
theorem n31_join {sr : List Fr} (wh : Ex) {f : Nat} (h1 : (normX sr wh).scan.length ≤ f) (h2 : f < sr.length) : (jsI (normX sr wh).late).getD ((f : Int) - ((normX sr wh).scan.length : Int)).toNat 0 = sr[f].join := by
  rw [n31_scan] at h1 ⊢
  have e : ((f : Int) - (coreN sr : Int)).toNat = f - coreN sr := by omega
  rw [e]
  show (jsI (latesX sr (coreN sr) (sr.length - coreN sr))).getD (f - coreN sr) 0 = _
  unfold jsI latesX
  have hi : f - coreN sr < sr.length - coreN sr := by omega
  have e2 : coreN sr + (f - coreN sr) = f := by omega
  simp [List.getD, hi, e2, h2, lateX]
theorem betP_len {cl : Int → Int → Int} {n : Nat} {l : List La} {f t : Int} (hk : ∀ x ∈ l, x.keys.length ≤ 3000) : (betP cl n l f t).length ≤ 3000 := by
  have hg : ∀ i : Nat, (l.getD i default).keys.length ≤ 3000 := fun i => by
    by_cases h : i < l.length
    · have e : l.getD i default = l[i] := by simp [List.getD, h]
      rw [e]
      exact hk _ (List.getElem_mem h)
    · have e : l.getD i default = default := by simp [List.getD, h]
      rw [e]
      show ([] : List Ed).length ≤ 3000
      decide
  unfold betP
  split
  · exact Nat.le_trans (keyP_len _ _ _ _) (hg _)
  · split
    · rw [List.length_map]
      exact Nat.le_trans (keyP_len _ _ _ _) (hg _)
    · split
      · exact Nat.le_trans (coreP_len _ _ _ _) (by decide)
      · simp
/-- What the law asks of each filter. -/
structure GoodF (n : Nat) (l : List La) (order : List Int) (v : Fv) : Prop where
  ends : ∃ f t : Nat, v.f = f ∧ v.t = t ∧ f < n + l.length ∧ t < n + l.length ∧ rankI n (jsI l) order t < rankI n (jsI l) order f ∧ order.head? ≠ some (f : Int) ∧ (n ≤ f → (jsI l).getD ((f : Int) - (n : Int)).toNat 0 ≠ 2 ∧ (jsI l).getD ((f : Int) - (n : Int)).toNat 0 ≠ 4)
  some : 0 < v.a.length
  same : v.a.length = v.b.length
  few : v.a.length ≤ 3000
theorem good31 {cl : Int → Int → Int} {n : Nat} {l : List La} {order : List Int} (hk : ∀ x ∈ l, x.keys.length ≤ 3000) : ∀ v ∈ (allI cl n l order).map fvF, GoodF n l order v := by
  intro v hv
  obtain ⟨x, hx, rfl⟩ := List.mem_map.1 hv
  obtain ⟨f, t, e1, e2, h1, h2, h3, h4, h5, h6, h7⟩ := allI_mem hx
  refine ⟨⟨f, t, e1, e2, h1, h2, by rw [← e1, ← e2]; exact h4, by rw [← e1]; exact h5, fun hnf => ?_⟩, ?_, ?_, ?_⟩
  · have := allI_join hx (by rw [e1]; omega)
    rw [e1] at this
    exact this
  · show 0 < (lcP x.cols).length
    rw [lcP_len]
    exact List.length_pos_iff.2 h7
  · show (lcP x.cols).length = (rcP x.cols).length
    rw [lcP_len, rcP_len]
  · show (lcP x.cols).length ≤ 3000
    rw [lcP_len, h6]
    exact betP_len hk
theorem all31_len {cl : Int → Int → Int} {n : Nat} {l : List La} {order : List Int} (hM : n + l.length ≤ 1000) : ((allI cl n l order).map fvF).length ≤ 1001000 := by
  rw [List.length_map]
  have h1 := flsI_len (cl := cl) (core := n) (late := l) (order := order) (n + l.length)
  have h2 : (n + l.length) * (n + l.length) ≤ 1000 * 1000 := Nat.mul_le_mul hM hM
  unfold allI
  omega
end Go.Proofs.Ytoaciliojdaoaaa

/- Layer 31: the law PlaceAlls, walked. Condition: a query and an order that lie in memory that is there. -/
namespace Go.Proofs.Ytoaciliojdaoaaa
open Go.RowKit
attribute [local go_sem] more_cell more_frozen more_more more_setCell more_of_drew more_of_drewN lt_more le_more past_cell past_cell2 past_frozen past_frozen2 past_setCell past_setCell2 mid_cell mid_frozen mid_setCell
attribute [local go_sem ↓] Go.wp_at_zero Go.wp_at_succ

def Pa31At (u : World) (n : Nat) (i : Value) (wr : World) : Prop := ∃ q : Nat, q ≤ n ∧ i = .int .i64 q ∧ Grew u wr
set_option maxHeartbeats 16000000 in
set_option maxRecDepth 100000 in
theorem placeAlls_walk (it : List Ex) (sr : List Fr) (wh : Ex) (gr : List Ex) (A : Option Addr) (k : Nat) (B : Option Addr) (j : Nat) (C : Option Addr) (c : Nat) (D : Option Addr) (d : Nat) (order : List Int) (S : Option Addr) (ks : Nat) (w : World)
    (rA : ExsR (PRow w) A it) (rB : FrsR (PRow w) B sr) (rC : ExsR (PRow w) C wh.l) (rD : ExsR (PRow w) D gr) (rS : Row w S (iV order)) :
    Gives Try.prog 3 #[.agg (qyC it sr wh gr A k B j C c D d), .slice S order.length ks] w (.bool true) := by
  have HMq : Hid (∀ W, Grew w W → Calls Try.prog 6 #[.agg (qyC it sr wh gr A k B j C c D d)] W (MuchR W (goodQ ⟨it, sr, wh, gr⟩))) := Lib.hid fun W hW => muchq_any it sr wh gr A k B j C c D d W (rA.grew hW) (rB.grew hW) (rC.grew hW) (rD.grew hW)
  have HLv : Hid (∀ W, Gives Try.prog 7 #[] W (.bool true)) := Lib.hid live31_any
  have RB := Lib.hid rB
  have RC := Lib.hid rC
  have RS := Lib.hid rS
  clear rA rB rC rD rS
  obtain ⟨ol, hol⟩ : ∃ ol, order.length = ol := ⟨_, rfl⟩
  rw [hol]
  have HOl := Lib.hid hol
  clear hol
  rcases Nat.eq_zero_or_pos ol with hpos | hpos
  · subst hpos
    unfold Gives
    unfold qyC at *
    go_enter Try.func3, Try.ntmps3
    go_upto_region 1 with fail
    obtain ⟨W0, hW0⟩ : ∃ W0, W0 = (w.alloc (.cells (qyC it sr wh gr A k B j C c D d) 29)) := ⟨_, rfl⟩
    have HBq : Hid (Blok W0 w.heap.size 29 (qyC it sr wh gr A k B j C c D d)) := Lib.hid (by rw [hW0]; exact (Blok.new _ _ _ _ rfl))
    have HG0 : Hid (Grew w W0) := Lib.hid (by rw [hW0]; exact ((Grew.refl w).alloc _))
    unfold qyC at hW0
    rw [← hW0]
    clear hW0
    generalize hbq : w.heap.size = bq at *
    clear hbq
    obtain ⟨xl, x0, x1, x2, x3, x4, x5, x6, x7, x8, x9, x10, x11⟩ := qy_in HBq.out
    go_wp2_with fail
    refine (HMq.out _ HG0.out).mono ?_
    rintro e w1 ⟨t1, rfl, hg1, hq1⟩
    have HG1 := Lib.hid (HG0.out.trans hg1)
    have HBq1 := Lib.hid (HBq.out.grew hg1)
    clear hg1 HBq HG0 xl x0 x1 x2 x3 x4 x5 x6 x7 x8 x9 x10 x11
    cases t1
    rotate_left
    · go_wp2_with (go_at_call 7; (with_reducible refine (HLv.out _).grows.mono ?_); rintro e9 w9 ⟨rfl, hg9⟩; have HG9 := Lib.hid hg9; clear hg9)
      go_ret
      exact ⟨rfl, HG1.out.trans HG9.out⟩
    have e20 : decide ((20 : Int) < (0 : Int)) = false := decide_eq_false (by omega)
    have e21 : ¬ (20 : Int) < (0 : Int) := by omega
    have HOo : Hid (order.length ≤ 20) := Lib.hid (by rw [HOl.out]; omega)
    have hgq : goodQ ⟨it, sr, wh, gr⟩ := hq1 rfl
    clear hq1 HMq
    have hsr12 : sr.length ≤ 12 := hgq.src
    have HOr : Hid (∀ W, Grew w W → Calls Try.prog 8 #[.agg (qyC it sr wh gr A k B j C c D d)] W (NormF W (normX sr wh))) := Lib.hid fun W hW => nrof_any it sr wh gr A k B j C c D d W (by omega) hgq.on hgq.wh (RB.out.grew hW) (RC.out.grew hW)
    have hne : (normX sr wh).edges.length ≤ 3000 := by
      have hal : (allX sr wh (coreN sr)).length ≤ 2600 := by
        have h1 := allP_len sr hgq.on (coreN sr)
        have h2 := Nat.le_trans (partsX_len wh) hgq.wh
        unfold allX
        rw [List.length_append]
        omega
      show (nE (coreN sr) _).length ≤ _
      unfold nE
      rw [List.length_map]
      have := List.length_filter_le (fun x => decide (whereI x (coreN sr) = 3)) (allX sr wh (coreN sr))
      omega
    have HNe := Lib.hid hne
    have HKs : Hid (∀ x ∈ (normX sr wh).late, x.keys.length ≤ 3000) := Lib.hid fun x hx => Nat.le_trans (n31_keys wh hgq.on x hx) (by decide)
    have HSum := Lib.hid (n31_sum sr wh)
    have HSr := Lib.hid hsr12
    have HJn : Hid (∀ (f : Nat) (h2 : f < sr.length), (normX sr wh).scan.length ≤ f → (jsI (normX sr wh).late).getD ((f : Int) - ((normX sr wh).scan.length : Int)).toNat 0 = sr[f].join) := Lib.hid fun f h2 h1 => n31_join wh h1 h2
    clear hgq hsr12 hne RC
    generalize normX sr wh = nx at *
    unfold qyC at *
    obtain ⟨xl, x0, x1, x2, x3, x4, x5, x6, x7, x8, x9, x10, x11⟩ := qy_in HBq1.out
    go_upto_region 4 with (go_at_call 8; (with_reducible refine (HOr.out _ HG1.out).mono ?_); rintro e2 w2 ⟨A1, k1, B1, j1, C1, c1, D1, d1, E1, f1, rfl, hg2, hm2⟩; unfold nmC)
    have HBn : Hid (Blok (w2.alloc (.cells #[.int .i64 nx.core, .slice A1 nx.scan.length k1, .slice B1 nx.edges.length j1, .slice C1 nx.rest.length c1, .slice D1 nx.late.length d1, .slice E1 nx.wh.length f1] 37)) w2.heap.size 37 #[.int .i64 nx.core, .slice A1 nx.scan.length k1, .slice B1 nx.edges.length j1, .slice C1 nx.rest.length c1, .slice D1 nx.late.length d1, .slice E1 nx.wh.length f1]) := Lib.hid (Blok.new _ _ _ _ rfl)
    have HG12 : Hid (Grew w1 (w2.alloc (.cells #[.int .i64 nx.core, .slice A1 nx.scan.length k1, .slice B1 nx.edges.length j1, .slice C1 nx.rest.length c1, .slice D1 nx.late.length d1, .slice E1 nx.wh.length f1] 37))) := Lib.hid (hg2.alloc _)
    have HG2 := Lib.hid (HG1.out.trans HG12.out)
    have HEd : Hid (EdsR (PRow (w2.alloc (.cells #[.int .i64 nx.core, .slice A1 nx.scan.length k1, .slice B1 nx.edges.length j1, .slice C1 nx.rest.length c1, .slice D1 nx.late.length d1, .slice E1 nx.wh.length f1] 37))) B1 nx.edges) := Lib.hid (hm2.edges.grew ((Grew.refl w2).alloc _))
    have HLa : Hid (LasR (PRow (w2.alloc (.cells #[.int .i64 nx.core, .slice A1 nx.scan.length k1, .slice B1 nx.edges.length j1, .slice C1 nx.rest.length c1, .slice D1 nx.late.length d1, .slice E1 nx.wh.length f1] 37))) D1 nx.late) := Lib.hid (hm2.late.grew ((Grew.refl w2).alloc _))
    have HRo : Hid (Row (w2.alloc (.cells #[.int .i64 nx.core, .slice A1 nx.scan.length k1, .slice B1 nx.edges.length j1, .slice C1 nx.rest.length c1, .slice D1 nx.late.length d1, .slice E1 nx.wh.length f1] 37)) S (iV order)) := Lib.hid (RS.out.grew HG2.out)
    clear hg2 hm2 xl x0 x1 x2 x3 x4 x5 x6 x7 x8 x9 x10 x11 HOr
    generalize (w2.alloc (.cells #[.int .i64 nx.core, .slice A1 nx.scan.length k1, .slice B1 nx.edges.length j1, .slice C1 nx.rest.length c1, .slice D1 nx.late.length d1, .slice E1 nx.wh.length f1] 37)) = W1 at *
    generalize w2.heap.size = bn at *
    have HBq2 := Lib.hid (HBq1.out.grew HG12.out)
    clear HBq1 HG12
    have HAl : Hid (∀ W, Grew W1 W → Calls Try.prog 9 #[.agg #[.int .i64 nx.core, .slice A1 nx.scan.length k1, .slice B1 nx.edges.length j1, .slice C1 nx.rest.length c1, .slice D1 nx.late.length d1, .slice E1 nx.wh.length f1], .slice S 0 ks] W (FlsF W ((allI (clI (clsE nx.edges)) nx.scan.length nx.late order).map fvF))) := Lib.hid fun W hW => by
      have := pall_any nx.core nx.edges nx.late order S ks A1 nx.scan.length k1 B1 j1 C1 nx.rest.length c1 D1 d1 E1 nx.wh.length f1 W (by have := HSum.out; have := HSr.out; omega) HNe.out HKs.out (by have := HOo.out; omega) (HLa.out.grew hW) (HEd.out.grew hW) (HRo.out.grew hW)
      rw [HOl.out] at this
      exact this
    have HAr : Hid (∀ W, Grew W1 W → Calls Try.prog 11 #[.agg #[.int .i64 nx.core, .slice A1 nx.scan.length k1, .slice B1 nx.edges.length j1, .slice C1 nx.rest.length c1, .slice D1 nx.late.length d1, .slice E1 nx.wh.length f1], .slice S 0 ks] W (FlsF W ((allI (clI (clsE nx.edges)) nx.scan.length nx.late order).map fvF))) := Lib.hid fun W hW => by
      have := rall31_any nx.core nx.edges nx.late order S ks A1 nx.scan.length k1 B1 j1 C1 nx.rest.length c1 D1 d1 E1 nx.wh.length f1 W (by have := HSum.out; have := HSr.out; omega) HNe.out HKs.out (by have := HOo.out; omega) (HLa.out.grew hW) (HEd.out.grew hW) (HRo.out.grew hW)
      rw [HOl.out] at this
      exact this
    have HRk : Hid (∀ (t : Nat) W, t < nx.scan.length + nx.late.length → Grew W1 W → Gives Try.prog 12 #[.agg #[.int .i64 nx.core, .slice A1 nx.scan.length k1, .slice B1 nx.edges.length j1, .slice C1 nx.rest.length c1, .slice D1 nx.late.length d1, .slice E1 nx.wh.length f1], .slice S 0 ks, .int .i64 t] W (.int .i64 (rankI nx.scan.length (jsI nx.late) order t))) := Lib.hid fun t W ht hW => by
      have := rrank31_any nx.core nx.late order S ks t A1 nx.scan.length k1 B1 nx.edges.length j1 C1 nx.rest.length c1 D1 d1 E1 nx.wh.length f1 W (by have := HSum.out; have := HSr.out; omega) (by have := HSum.out; have := HSr.out; omega) (by have := HOo.out; omega) ht (HLa.out.grew hW) (HRo.out.grew hW)
      rw [HOl.out] at this
      exact this
    have HGd : Hid (∀ v ∈ (allI (clI (clsE nx.edges)) nx.scan.length nx.late order).map fvF, GoodF nx.scan.length nx.late order v) := Lib.hid (good31 HKs.out)
    have HLl : Hid (((allI (clI (clsE nx.edges)) nx.scan.length nx.late order).map fvF).length ≤ 1001000) := Lib.hid (all31_len (by have := HSum.out; have := HSr.out; omega))
    generalize (allI (clI (clsE nx.edges)) nx.scan.length nx.late order).map fvF = L at *
    have HSm : Hid (∀ X x Y y W, FvsR (PRow W) X L → FvsR (PRow W) Y L → Gives Try.prog 10 #[.slice X L.length x, .slice Y L.length y] W (.bool true)) := Lib.hid fun X x Y y W h1 h2 => rsame31_any L X Y x y (by have := HLl.out; omega) (fun v hv => by have h := HGd.out v hv; have h1 := h.few; have h2 := h.same; omega) W h1 h2
    clear HKs HNe HEd HLa e20 e21
    obtain ⟨xl, x0, x1, x2, x3, x4, x5⟩ := nm_in HBn.out
    go_upto_region 5 with (go_at_call 9; (with_reducible refine (HAl.out _ (Grew.refl _)).mono ?_); rintro e3 w3 ⟨A3, k3, rfl, hg3, hf3⟩; have HG3 := Lib.hid hg3; have HF3 := Lib.hid hf3; clear hg3 hf3)
    clear xl x0 x1 x2 x3 x4 x5
    obtain ⟨xl, x0, x1, x2, x3, x4, x5⟩ := nm_in (HBn.out.grew HG3.out)
    go_wp2_with (first | (go_at_call 11; (with_reducible refine (HAr.out _ HG3.out).mono ?_); rintro e4 w4 ⟨A4, k4, rfl, hg4, hf4⟩; have HG4 := Lib.hid (HG3.out.trans hg4); have HF4 := Lib.hid hf4; have HF5 := Lib.hid (HF3.out.grew hg4); clear hg4 hf4) | (go_at_call 10; (with_reducible refine (HSm.out _ _ _ _ _ HF5.out HF4.out).grows.mono ?_); rintro e5 w5 ⟨rfl, hg5⟩; have HG5 := Lib.hid (HG4.out.trans hg5); have HF6 := Lib.hid (HF5.out.grew hg5); clear hg5))
    clear xl x0 x1 x2 x3 x4 x5 HAl HAr HSm HF3 HF4 HF5 HG3 HG4
    generalize hLl : L.length = ll at *
    have HLe := Lib.hid hLl
    clear hLl
    go_loopw [7, 45, 46, 47, 48, 49, 50, 51, 52, 53, 54, 55, 56, 57, 58, 59, 60, 61, 62, 63, 64, 65, 66, 67, 68, 69, 70, 71, 72, 73, 74, 75, 76, 77, 78, 79, 80, 81, 82, 83, 84, 85, 86, 87, 88, 89, 90, 91, 92, 93, 94, 95, 96, 97, 98, 99, 100, 101, 102, 103, 104, 105, 106, 107, 108, 109, 110, 111] (fun i _ _ _ _ _ _ _ _ _ _ _ _ _ _ _ _ _ _ _ _ _ _ _ _ _ _ _ _ _ _ _ _ _ _ _ _ _ _ _ _ _ _ _ _ _ _ _ _ _ _ _ _ _ _ _ _ _ _ _ _ _ _ _ _ _ _ _ wr => Pa31At w5 ll i wr) (fun i _ _ _ _ _ _ _ _ _ _ _ _ _ _ _ _ _ _ _ _ _ _ _ _ _ _ _ _ _ _ _ _ _ _ _ _ _ _ _ _ _ _ _ _ _ _ _ _ _ _ _ _ _ _ _ _ _ _ _ _ _ _ _ _ _ _ _ _ => ll - (intOf i).toNat)
    case atStart => exact ⟨0, Nat.zero_le _, rfl, Grew.refl _⟩
    case round =>
      obtain ⟨q, hq, rfl, hg⟩ := hrel
      have HG := Lib.hid hg
      clear hg
      by_cases hlt : q < ll
      · have HLq := Lib.hid hlt
        have hq' : q < L.length := by rw [HLe.out]; exact hlt
        obtain ⟨b, o, X, x, Y, y, rfl, hb, c0', c1', c2', c3', _, _⟩ := fvsR_at (HF6.out.grew HG.out) hq'
        have hgd := HGd.out _ (List.getElem_mem hq')
        generalize L[q] = v at *
        obtain ⟨⟨f, t, ef, et, hf, ht, hrk, hhd, hjn⟩, hs1, hs2, _⟩ := hgd
        rw [ef] at c0'
        rw [et] at c2'
        rw [← hs2] at c3'
        generalize v.a.length = na at *
        clear hs2 ef et hq'
        have hfs : f < sr.length := by have := HSum.out; omega
        have HFs : Hid (∀ W, Grew wr W → b < W.heap.size ∧ W.cell? ⟨b, o + q * 4, none⟩ = some (.int .i64 f) ∧ W.cell? ⟨b, o + q * 4 + 1, none⟩ = some (.slice X na x) ∧ W.cell? ⟨b, o + q * 4 + 2, none⟩ = some (.int .i64 t) ∧ W.cell? ⟨b, o + q * 4 + 3, none⟩ = some (.slice Y na y)) := Lib.hid fun W hW => ⟨Nat.lt_of_lt_of_le hb hW.size, cell_keep hW hb c0', cell_keep hW hb c1', cell_keep hW hb c2', cell_keep hW hb c3'⟩
        clear hb c0' c1' c2' c3'
        have HR1 : Hid (∀ W, Grew W1 W → Gives Try.prog 12 #[.agg #[.int .i64 nx.core, .slice A1 nx.scan.length k1, .slice B1 nx.edges.length j1, .slice C1 nx.rest.length c1, .slice D1 nx.late.length d1, .slice E1 nx.wh.length f1], .slice S 0 ks, .int .i64 f] W (.int .i64 (rankI nx.scan.length (jsI nx.late) order f))) := Lib.hid fun W hW => HRk.out f W hf hW
        have HR2 : Hid (∀ W, Grew W1 W → Gives Try.prog 12 #[.agg #[.int .i64 nx.core, .slice A1 nx.scan.length k1, .slice B1 nx.edges.length j1, .slice C1 nx.rest.length c1, .slice D1 nx.late.length d1, .slice E1 nx.wh.length f1], .slice S 0 ks, .int .i64 t] W (.int .i64 (rankI nx.scan.length (jsI nx.late) order t))) := Lib.hid fun W hW => HRk.out t W ht hW
        generalize rankI nx.scan.length (jsI nx.late) order f = rf at *
        generalize rankI nx.scan.length (jsI nx.late) order t = rt at *
        obtain ⟨bF, oF, BF, kF, hBA, _, _, hj, _, _⟩ := frsR_at (RB.out.grew (HG2.out.trans (HG5.out.trans HG.out))) hfs
        have hbF : bF < wr.heap.size := by
          obtain ⟨bF', oF', _, _, hBA', _, hbF', _⟩ := frsR_all (RB.out.grew (HG2.out.trans (HG5.out.trans HG.out))) hfs
          rw [hBA] at hBA'
          cases hBA'
          exact hbF'
        have hjf : nx.scan.length ≤ f → sr[f].join ≠ 2 ∧ sr[f].join ≠ 4 := fun h => by rw [← HJn.out f hfs h]; exact hjn h
        subst hBA
        have HJ : Hid (∀ W, Grew wr W → bF < W.heap.size ∧ W.cell? ⟨bF, oF + f * 12, none⟩ = some (.int .i64 sr[f].join)) := Lib.hid fun W hW => ⟨Nat.lt_of_lt_of_le hbF hW.size, cell_keep hW hbF hj⟩
        generalize sr[f].join = jf at *
        have t1 : decide ((f : Int) < 0) = false := decide_eq_false (by omega)
        have t2 : decide ((sr.length : Int) ≤ (f : Int)) = false := decide_eq_false (by omega)
        have t3 : decide ((t : Int) < 0) = false := decide_eq_false (by omega)
        have t4 : decide ((sr.length : Int) ≤ (t : Int)) = false := decide_eq_false (by have := HSum.out; omega)
        have t2n : decide (sr.length ≤ f) = false := decide_eq_false (by omega)
        have t4n : decide (sr.length ≤ t) = false := decide_eq_false (by have := HSum.out; omega)
        have t5 : decide (rf ≤ rt) = false := decide_eq_false (by omega)
        have t6 : ((na : Int) == 0) = false := by rw [beq_eq_false_iff_ne]; omega
        have t7 : ((na : Int) != (na : Int)) = false := by simp
        have HHd := Lib.hid hhd
        have HJf := Lib.hid hjf
        clear hhd hjf hjn hj hbF hrk hs1 HRk HGd
        have HBqr := Lib.hid (HBq2.out.grew (HG5.out.trans HG.out))
        have HBnr := Lib.hid (HBn.out.grew (HG5.out.trans HG.out))
        have HRr := Lib.hid (HRo.out.grew (HG5.out.trans HG.out))
        go_upto_region 10 with fail
        have hS0 : Grew wr wr.drew := (Grew.refl wr).drew
        refine wp_region_S (fun W => Grew wr W) (by kernel_rfl) ?_
        refine held_take 0 (v := ?_) rfl (by kernel_rfl) (by kernel_rfl) (by kernel_rfl) (fun _ _ _ h => h) (by rfl) ?_ hS0 ?_
        rotate_left
        · (intro W hW; obtain ⟨hb, c0', c1', c2', c3'⟩ := HFs.out _ hW; go_simp; with_reducible rfl)
        refine held_take 1 (v := ?_) rfl (by kernel_rfl) (by kernel_rfl) (by kernel_rfl) (fun _ _ _ h => h) (by rfl) ?_ hS0 ?_
        rotate_left
        · (intro W hW; obtain ⟨hb, c0', c1', c2', c3'⟩ := HFs.out _ hW; go_simp; with_reducible rfl)
        refine held_take 2 (v := ?_) rfl (by kernel_rfl) (by kernel_rfl) (by kernel_rfl) (fun _ _ _ h => h) (by rfl) ?_ hS0 ?_
        rotate_left
        · (intro W hW; obtain ⟨hb, c0', c1', c2', c3'⟩ := HFs.out _ hW; go_simp; with_reducible rfl)
        refine held_take 3 (v := ?_) rfl (by kernel_rfl) (by kernel_rfl) (by kernel_rfl) (fun _ _ _ h => h) (by rfl) ?_ hS0 ?_
        rotate_left
        · (intro W hW; obtain ⟨hb, c0', c1', c2', c3'⟩ := HFs.out _ hW; go_simp; with_reducible rfl)
        refine held_take 4 (v := ?_) rfl (by kernel_rfl) (by kernel_rfl) (by kernel_rfl) (fun _ _ _ h => h) (by rfl) ?_ hS0 ?_
        rotate_left
        · (intro W hW; obtain ⟨hb, c0', c1', c2', c3'⟩ := HFs.out _ hW; go_simp; with_reducible rfl)
        refine held_take 5 (v := ?_) rfl (by kernel_rfl) (by kernel_rfl) (by kernel_rfl) (fun _ _ _ h => h) (by rfl) ?_ hS0 ?_
        rotate_left
        · (intro W hW; obtain ⟨hb, c0', c1', c2', c3'⟩ := HFs.out _ hW; go_simp; with_reducible rfl)
        refine held_take 6 (v := ?_) rfl (by kernel_rfl) (by kernel_rfl) (by kernel_rfl) (fun _ _ _ h => h) (by rfl) ?_ hS0 ?_
        rotate_left
        · (intro W hW; obtain ⟨hb, c0', c1', c2', c3'⟩ := HFs.out _ hW; go_simp; with_reducible rfl)
        refine held_take 7 (v := ?_) rfl (by kernel_rfl) (by kernel_rfl) (by kernel_rfl) (fun _ _ _ h => h) (by rfl) ?_ hS0 ?_
        rotate_left
        · (intro W hW; obtain ⟨hb, c0', c1', c2', c3'⟩ := HFs.out _ hW; go_simp; with_reducible rfl)
        refine held_take 8 (v := ?_) rfl (by kernel_rfl) (by kernel_rfl) (by kernel_rfl) (fun _ _ _ h => h) (by rfl) ?_ hS0 ?_
        rotate_left
        · (intro W hW; obtain ⟨hb, c0', c1', c2', c3'⟩ := HFs.out _ hW; go_simp; with_reducible rfl)
        refine held_take 9 (v := ?_) rfl (by kernel_rfl) (by kernel_rfl) (by kernel_rfl) (fun _ _ _ h => h) (by rfl) ?_ hS0 ?_
        rotate_left
        · (intro W hW; obtain ⟨hb, c0', c1', c2', c3'⟩ := HFs.out _ hW; go_simp; with_reducible rfl)
        refine held_take 10 (v := ?_) rfl (by kernel_rfl) (by kernel_rfl) (by kernel_rfl) (fun _ _ _ h => h) (by rfl) ?_ hS0 ?_
        rotate_left
        · (intro W hW; obtain ⟨hb, c0', c1', c2', c3'⟩ := HFs.out _ hW; go_simp; with_reducible rfl)
        refine held_take 11 (v := ?_) rfl (by kernel_rfl) (by kernel_rfl) (by kernel_rfl) (fun _ _ _ h => h) (by rfl) ?_ hS0 ?_
        rotate_left
        · (intro W hW; obtain ⟨hb, c0', c1', c2', c3'⟩ := HFs.out _ hW; go_simp; with_reducible rfl)
        refine held_norm (a' := ?_) ?_ ?_
        rotate_left
        · (go_simp; with_reducible rfl)
        refine held_done (by kernel_rfl) ?_
        have HS0 := Lib.hid hS0
        clear hS0
        generalize wr.drew = w7 at *
        have HBq7 := Lib.hid (HBqr.out.grew HS0.out)
        have HBn7 := Lib.hid (HBnr.out.grew HS0.out)
        obtain ⟨hb, c0', c1', c2', c3'⟩ := HFs.out _ HS0.out
        obtain ⟨hbF, hj⟩ := HJ.out _ HS0.out
        obtain ⟨ql, q0, q1, q2, q3, q4, q5, q6, q7, q8, q9, q10, q11⟩ := qy_in (HBqr.out.grew HS0.out)
        obtain ⟨xl, x0, x1, x2, x3, x4, x5⟩ := nm_in (HBnr.out.grew HS0.out)
        have hsc : ¬ nx.scan.length ≤ f ∨ nx.scan.length ≤ f := by omega
        go_upto_region 11 with fail
        clear hb c0' c1' c2' c3' hbF hj ql q0 q1 q2 q3 q4 q5 q6 q7 q8 q9 q10 q11 xl x0 x1 x2 x3 x4 x5
        have hS1 : Grew w7 w7.drew := (Grew.refl w7).drew
        refine wp_region_S (fun W => Grew w7 W) (by kernel_rfl) ?_
        refine held_take 0 (v := ?_) rfl (by kernel_rfl) (by kernel_rfl) (by kernel_rfl) (fun _ _ _ h => h) (by rfl) ?_ hS1 ?_
        rotate_left
        · (intro W hW; skip; go_simp; with_reducible rfl)
        refine held_take 1 (v := ?_) rfl (by kernel_rfl) (by kernel_rfl) (by kernel_rfl) (fun _ _ _ h => h) (by rfl) ?_ hS1 ?_
        rotate_left
        · (intro W hW; skip; go_simp; with_reducible rfl)
        refine held_take 2 (v := ?_) rfl (by kernel_rfl) (by kernel_rfl) (by kernel_rfl) (fun _ _ _ h => h) (by rfl) ?_ hS1 ?_
        rotate_left
        · (intro W hW; skip; go_simp; with_reducible rfl)
        refine held_norm (a' := ?_) ?_ ?_
        rotate_left
        · (go_simp; with_reducible rfl)
        refine held_take 3 (v := ?_) rfl (by kernel_rfl) (by kernel_rfl) (by kernel_rfl) (fun _ _ _ h => h) (by rfl) ?_ hS1 ?_
        rotate_left
        · (intro W hW; obtain ⟨ql, q0, q1, q2, q3, q4, q5, q6, q7, q8, q9, q10, q11⟩ := qy_in (HBq7.out.grew hW); go_simp; with_reducible rfl)
        refine held_take 4 (v := ?_) rfl (by kernel_rfl) (by kernel_rfl) (by kernel_rfl) (fun _ _ _ h => h) (by rfl) ?_ hS1 ?_
        rotate_left
        · (intro W hW; obtain ⟨ql, q0, q1, q2, q3, q4, q5, q6, q7, q8, q9, q10, q11⟩ := qy_in (HBq7.out.grew hW); go_simp; with_reducible rfl)
        refine held_take 5 (v := ?_) rfl (by kernel_rfl) (by kernel_rfl) (by kernel_rfl) (fun _ _ _ h => h) (by rfl) ?_ hS1 ?_
        rotate_left
        · (intro W hW; obtain ⟨ql, q0, q1, q2, q3, q4, q5, q6, q7, q8, q9, q10, q11⟩ := qy_in (HBq7.out.grew hW); go_simp; with_reducible rfl)
        refine held_norm (a' := ?_) ?_ ?_
        rotate_left
        · (go_simp; with_reducible rfl)
        refine held_take 6 (v := ?_) rfl (by kernel_rfl) (by kernel_rfl) (by kernel_rfl) (fun _ _ _ h => h) (by rfl) ?_ hS1 ?_
        rotate_left
        · (intro W hW; skip; go_simp; with_reducible rfl)
        refine held_take 7 (v := ?_) rfl (by kernel_rfl) (by kernel_rfl) (by kernel_rfl) (fun _ _ _ h => h) (by rfl) ?_ hS1 ?_
        rotate_left
        · (intro W hW; skip; go_simp; with_reducible rfl)
        refine held_norm (a' := ?_) ?_ ?_
        rotate_left
        · (go_simp; with_reducible rfl)
        refine held_take 8 (v := ?_) rfl (by kernel_rfl) (by kernel_rfl) (by kernel_rfl) (fun _ _ _ h => h) (by rfl) ?_ hS1 ?_
        rotate_left
        · (intro W hW; skip; go_simp; with_reducible rfl)
        refine held_take 9 (v := ?_) rfl (by kernel_rfl) (by kernel_rfl) (by kernel_rfl) (fun _ _ _ h => h) (by rfl) ?_ hS1 ?_
        rotate_left
        · (intro W hW; skip; go_simp; with_reducible rfl)
        refine held_norm (a' := ?_) ?_ ?_
        rotate_left
        · (go_simp; with_reducible rfl)
        refine held_take 10 (v := ?_) rfl (by kernel_rfl) (by kernel_rfl) (by kernel_rfl) (fun _ _ _ h => h) (by rfl) ?_ hS1 ?_
        rotate_left
        · (intro W hW; skip; go_simp; with_reducible rfl)
        refine held_take 11 (v := ?_) rfl (by kernel_rfl) (by kernel_rfl) (by kernel_rfl) (fun _ _ _ h => h) (by rfl) ?_ hS1 ?_
        rotate_left
        · (intro W hW; skip; go_simp; with_reducible rfl)
        refine held_norm (a' := ?_) ?_ ?_
        rotate_left
        · (go_simp; with_reducible rfl)
        refine held_take 12 (v := ?_) rfl (by kernel_rfl) (by kernel_rfl) (by kernel_rfl) (fun _ _ _ h => h) (by rfl) ?_ hS1 ?_
        rotate_left
        · (intro W hW; skip; go_simp; with_reducible rfl)
        refine held_take 13 (v := ?_) rfl (by kernel_rfl) (by kernel_rfl) (by kernel_rfl) (fun _ _ _ h => h) (by rfl) ?_ hS1 ?_
        rotate_left
        · (intro W hW; skip; go_simp; with_reducible rfl)
        refine held_norm (a' := ?_) ?_ ?_
        rotate_left
        · (go_simp; with_reducible rfl)
        refine held_take 14 (v := ?_) rfl (by kernel_rfl) (by kernel_rfl) (by kernel_rfl) (fun _ _ _ h => h) (by rfl) ?_ hS1 ?_
        rotate_left
        · (intro W hW; obtain ⟨ql, q0, q1, q2, q3, q4, q5, q6, q7, q8, q9, q10, q11⟩ := qy_in (HBq7.out.grew hW); go_simp; with_reducible rfl)
        refine held_take 15 (v := ?_) rfl (by kernel_rfl) (by kernel_rfl) (by kernel_rfl) (fun _ _ _ h => h) (by rfl) ?_ hS1 ?_
        rotate_left
        · (intro W hW; obtain ⟨ql, q0, q1, q2, q3, q4, q5, q6, q7, q8, q9, q10, q11⟩ := qy_in (HBq7.out.grew hW); go_simp; with_reducible rfl)
        refine held_take 16 (v := ?_) rfl (by kernel_rfl) (by kernel_rfl) (by kernel_rfl) (fun _ _ _ h => h) (by rfl) ?_ hS1 ?_
        rotate_left
        · (intro W hW; obtain ⟨ql, q0, q1, q2, q3, q4, q5, q6, q7, q8, q9, q10, q11⟩ := qy_in (HBq7.out.grew hW); go_simp; with_reducible rfl)
        refine held_norm (a' := ?_) ?_ ?_
        rotate_left
        · (go_simp; with_reducible rfl)
        refine held_take 17 (v := ?_) rfl (by kernel_rfl) (by kernel_rfl) (by kernel_rfl) (fun _ _ _ h => h) (by rfl) ?_ hS1 ?_
        rotate_left
        · (intro W hW; skip; go_simp; with_reducible rfl)
        refine held_take 18 (v := ?_) rfl (by kernel_rfl) (by kernel_rfl) (by kernel_rfl) (fun _ _ _ h => h) (by rfl) ?_ hS1 ?_
        rotate_left
        · (intro W hW; skip; go_simp; with_reducible rfl)
        refine held_norm (a' := ?_) ?_ ?_
        rotate_left
        · (go_simp; with_reducible rfl)
        refine held_take 19 (v := ?_) rfl (by kernel_rfl) (by kernel_rfl) (by kernel_rfl) (fun _ _ _ h => h) (by rfl) ?_ hS1 ?_
        rotate_left
        · (intro W hW; skip; go_simp; with_reducible rfl)
        refine held_take 20 (v := ?_) rfl (by kernel_rfl) (by kernel_rfl) (by kernel_rfl) (fun _ _ _ h => h) (by rfl) ?_ hS1 ?_
        rotate_left
        · (intro W hW; skip; go_simp; with_reducible rfl)
        refine held_norm (a' := ?_) ?_ ?_
        rotate_left
        · (go_simp; with_reducible rfl)
        refine held_take 21 (v := ?_) rfl (by kernel_rfl) (by kernel_rfl) (by kernel_rfl) (fun _ _ _ h => h) (by rfl) ?_ hS1 ?_
        rotate_left
        · (intro W hW; skip; go_simp; with_reducible rfl)
        refine held_take 22 (v := ?_) rfl (by kernel_rfl) (by kernel_rfl) (by kernel_rfl) (fun _ _ _ h => h) (by rfl) ?_ hS1 ?_
        rotate_left
        · (intro W hW; skip; go_simp; with_reducible rfl)
        refine held_take 23 (v := ?_) rfl (by kernel_rfl) (by kernel_rfl) (by kernel_rfl) (fun _ _ _ h => h) (by rfl) ?_ hS1 ?_
        rotate_left
        · (intro W hW; skip; go_simp; with_reducible rfl)
        refine held_take 24 (v := ?_) rfl (by kernel_rfl) (by kernel_rfl) (by kernel_rfl) (fun _ _ _ h => h) (by rfl) ?_ hS1 ?_
        rotate_left
        · (intro W hW; skip; go_simp; with_reducible rfl)
        refine held_norm (a' := ?_) ?_ ?_
        rotate_left
        · (go_simp; with_reducible rfl)
        refine held_skip 25 rfl (by kernel_rfl) (by kernel_rfl) (by kernel_rfl) (fun _ _ _ h => h) (by rfl) hS1 ?_
        refine held_norm (a' := ?_) ?_ ?_
        rotate_left
        · (go_simp; with_reducible rfl)
        refine held_skip 26 rfl (by kernel_rfl) (by kernel_rfl) (by kernel_rfl) (fun _ _ _ h => h) (by rfl) hS1 ?_
        refine held_norm (a' := ?_) ?_ ?_
        rotate_left
        · (go_simp; with_reducible rfl)
        refine held_skip 27 rfl (by kernel_rfl) (by kernel_rfl) (by kernel_rfl) (fun _ _ _ h => h) (by rfl) hS1 ?_
        refine held_norm (a' := ?_) ?_ ?_
        rotate_left
        · (go_simp; with_reducible rfl)
        refine held_skip 28 rfl (by kernel_rfl) (by kernel_rfl) (by kernel_rfl) (fun _ _ _ h => h) (by rfl) hS1 ?_
        refine held_norm (a' := ?_) ?_ ?_
        rotate_left
        · (go_simp; with_reducible rfl)
        refine held_skip 29 rfl (by kernel_rfl) (by kernel_rfl) (by kernel_rfl) (fun _ _ _ h => h) (by rfl) hS1 ?_
        refine held_norm (a' := ?_) ?_ ?_
        rotate_left
        · (go_simp; with_reducible rfl)
        refine held_take 30 (v := ?_) rfl (by kernel_rfl) (by kernel_rfl) (by kernel_rfl) (fun _ _ _ h => h) (by rfl) ?_ hS1 ?_
        rotate_left
        · (intro W hW; skip; go_simp; with_reducible rfl)
        refine held_norm (a' := ?_) ?_ ?_
        rotate_left
        · (go_simp; with_reducible rfl)
        refine held_take 31 (v := ?_) rfl (by kernel_rfl) (by kernel_rfl) (by kernel_rfl) (fun _ _ _ h => h) (by rfl) ?_ hS1 ?_
        rotate_left
        · (intro W hW; skip; go_simp; with_reducible rfl)
        refine held_take 32 (v := ?_) rfl (by kernel_rfl) (by kernel_rfl) (by kernel_rfl) (fun _ _ _ h => h) (by rfl) ?_ hS1 ?_
        rotate_left
        · (intro W hW; skip; go_simp; with_reducible rfl)
        refine held_norm (a' := ?_) ?_ ?_
        rotate_left
        · (go_simp; with_reducible rfl)
        refine held_take 33 (v := ?_) rfl (by kernel_rfl) (by kernel_rfl) (by kernel_rfl) (fun _ _ _ h => h) (by rfl) ?_ hS1 ?_
        rotate_left
        · (intro W hW; obtain ⟨xl, x0, x1, x2, x3, x4, x5⟩ := nm_in (HBn7.out.grew hW); go_simp; with_reducible rfl)
        refine held_take 34 (v := ?_) rfl (by kernel_rfl) (by kernel_rfl) (by kernel_rfl) (fun _ _ _ h => h) (by rfl) ?_ hS1 ?_
        rotate_left
        · (intro W hW; obtain ⟨xl, x0, x1, x2, x3, x4, x5⟩ := nm_in (HBn7.out.grew hW); go_simp; with_reducible rfl)
        refine held_take 35 (v := ?_) rfl (by kernel_rfl) (by kernel_rfl) (by kernel_rfl) (fun _ _ _ h => h) (by rfl) ?_ hS1 ?_
        rotate_left
        · (intro W hW; obtain ⟨xl, x0, x1, x2, x3, x4, x5⟩ := nm_in (HBn7.out.grew hW); go_simp; with_reducible rfl)
        refine held_norm (a' := ?_) ?_ ?_
        rotate_left
        · (go_simp; with_reducible rfl)
        refine held_take 37 (v := ?_) rfl (by kernel_rfl) (by kernel_rfl) (by kernel_rfl) (fun _ _ _ h => h) (by rfl) ?_ hS1 ?_
        rotate_left
        · (intro W hW; obtain ⟨xl, x0, x1, x2, x3, x4, x5⟩ := nm_in (HBn7.out.grew hW); go_simp; with_reducible rfl)
        refine held_take 38 (v := ?_) rfl (by kernel_rfl) (by kernel_rfl) (by kernel_rfl) (fun _ _ _ h => h) (by rfl) ?_ hS1 ?_
        rotate_left
        · (intro W hW; obtain ⟨xl, x0, x1, x2, x3, x4, x5⟩ := nm_in (HBn7.out.grew hW); go_simp; with_reducible rfl)
        refine held_take 39 (v := ?_) rfl (by kernel_rfl) (by kernel_rfl) (by kernel_rfl) (fun _ _ _ h => h) (by rfl) ?_ hS1 ?_
        rotate_left
        · (intro W hW; obtain ⟨xl, x0, x1, x2, x3, x4, x5⟩ := nm_in (HBn7.out.grew hW); go_simp; with_reducible rfl)
        refine held_norm (a' := ?_) ?_ ?_
        rotate_left
        · (go_simp; with_reducible rfl)
        refine held_call 36 (by kernel_rfl) rfl (by rfl) (fun K hK => ?_)
        go_simp
        go_wp2_with ((go_at_call 12; (with_reducible refine (HR1.out _ ((HG5.out.trans (HG.out.trans HS0.out)).trans hS1)).grows.mono ?_); rintro e8 w8 ⟨rfl, hg8⟩; have hS8 := hS1.trans hg8))
        refine hK.out _ _ hS8 ?_
        clear hK K
        refine held_call 40 (by kernel_rfl) rfl (by rfl) (fun K hK => ?_)
        go_simp
        go_wp2_with ((go_at_call 12; (with_reducible refine (HR2.out _ ((HG5.out.trans (HG.out.trans HS0.out)).trans hS8)).grows.mono ?_); rintro e9 w9 ⟨rfl, hg9⟩; have hS9 := hS8.trans hg9))
        refine hK.out _ _ hS9 ?_
        clear hK K
        refine held_take 41 (v := ?_) rfl (by kernel_rfl) (by kernel_rfl) (by kernel_rfl) (fun _ _ _ h => h) (by rfl) ?_ hS9 ?_
        rotate_left
        · (intro W hW; skip; go_simp; with_reducible rfl)
        refine held_norm (a' := ?_) ?_ ?_
        rotate_left
        · (go_simp; with_reducible rfl)
        refine held_take 42 (v := ?_) rfl (by kernel_rfl) (by kernel_rfl) (by kernel_rfl) (fun _ _ _ h => h) (by rfl) ?_ hS9 ?_
        rotate_left
        · (intro W hW; skip; go_simp; with_reducible rfl)
        refine held_take 43 (v := ?_) rfl (by kernel_rfl) (by kernel_rfl) (by kernel_rfl) (fun _ _ _ h => h) (by rfl) ?_ hS9 ?_
        rotate_left
        · (intro W hW; skip; go_simp; with_reducible rfl)
        refine held_norm (a' := ?_) ?_ ?_
        rotate_left
        · (go_simp; with_reducible rfl)
        refine held_take 44 (v := ?_) rfl (by kernel_rfl) (by kernel_rfl) (by kernel_rfl) (fun _ _ _ h => h) (by rfl) ?_ hS9 ?_
        rotate_left
        · (intro W hW; skip; go_simp; with_reducible rfl)
        refine held_take 45 (v := ?_) rfl (by kernel_rfl) (by kernel_rfl) (by kernel_rfl) (fun _ _ _ h => h) (by rfl) ?_ hS9 ?_
        rotate_left
        · (intro W hW; skip; go_simp; with_reducible rfl)
        refine held_take 46 (v := ?_) rfl (by kernel_rfl) (by kernel_rfl) (by kernel_rfl) (fun _ _ _ h => h) (by rfl) ?_ hS9 ?_
        rotate_left
        · (intro W hW; skip; go_simp; with_reducible rfl)
        refine held_norm (a' := ?_) ?_ ?_
        rotate_left
        · (go_simp; with_reducible rfl)
        refine held_take 47 (v := ?_) rfl (by kernel_rfl) (by kernel_rfl) (by kernel_rfl) (fun _ _ _ h => h) (by rfl) ?_ hS9 ?_
        rotate_left
        · (intro W hW; obtain ⟨hb, c0', c1', c2', c3'⟩ := HFs.out _ (HS0.out.trans hW); go_simp; with_reducible rfl)
        refine held_take 48 (v := ?_) rfl (by kernel_rfl) (by kernel_rfl) (by kernel_rfl) (fun _ _ _ h => h) (by rfl) ?_ hS9 ?_
        rotate_left
        · (intro W hW; obtain ⟨hb, c0', c1', c2', c3'⟩ := HFs.out _ (HS0.out.trans hW); go_simp; with_reducible rfl)
        refine held_norm (a' := ?_) ?_ ?_
        rotate_left
        · (go_simp; with_reducible rfl)
        refine held_take 49 (v := ?_) rfl (by kernel_rfl) (by kernel_rfl) (by kernel_rfl) (fun _ _ _ h => h) (by rfl) ?_ hS9 ?_
        rotate_left
        · (intro W hW; skip; go_simp; with_reducible rfl)
        refine held_take 50 (v := ?_) rfl (by kernel_rfl) (by kernel_rfl) (by kernel_rfl) (fun _ _ _ h => h) (by rfl) ?_ hS9 ?_
        rotate_left
        · (intro W hW; skip; go_simp; with_reducible rfl)
        refine held_norm (a' := ?_) ?_ ?_
        rotate_left
        · (go_simp; with_reducible rfl)
        refine held_take 51 (v := ?_) rfl (by kernel_rfl) (by kernel_rfl) (by kernel_rfl) (fun _ _ _ h => h) (by rfl) ?_ hS9 ?_
        rotate_left
        · (intro W hW; skip; go_simp; with_reducible rfl)
        refine held_take 52 (v := ?_) rfl (by kernel_rfl) (by kernel_rfl) (by kernel_rfl) (fun _ _ _ h => h) (by rfl) ?_ hS9 ?_
        rotate_left
        · (intro W hW; skip; go_simp; with_reducible rfl)
        refine held_norm (a' := ?_) ?_ ?_
        rotate_left
        · (go_simp; with_reducible rfl)
        refine held_take 53 (v := ?_) rfl (by kernel_rfl) (by kernel_rfl) (by kernel_rfl) (fun _ _ _ h => h) (by rfl) ?_ hS9 ?_
        rotate_left
        · (intro W hW; skip; go_simp; with_reducible rfl)
        refine held_take 54 (v := ?_) rfl (by kernel_rfl) (by kernel_rfl) (by kernel_rfl) (fun _ _ _ h => h) (by rfl) ?_ hS9 ?_
        rotate_left
        · (intro W hW; skip; go_simp; with_reducible rfl)
        refine held_take 55 (v := ?_) rfl (by kernel_rfl) (by kernel_rfl) (by kernel_rfl) (fun _ _ _ h => h) (by rfl) ?_ hS9 ?_
        rotate_left
        · (intro W hW; skip; go_simp; with_reducible rfl)
        refine held_norm (a' := ?_) ?_ ?_
        rotate_left
        · (go_simp; with_reducible rfl)
        refine held_take 56 (v := ?_) rfl (by kernel_rfl) (by kernel_rfl) (by kernel_rfl) (fun _ _ _ h => h) (by rfl) ?_ hS9 ?_
        rotate_left
        · (intro W hW; obtain ⟨hb, c0', c1', c2', c3'⟩ := HFs.out _ (HS0.out.trans hW); go_simp; with_reducible rfl)
        refine held_take 57 (v := ?_) rfl (by kernel_rfl) (by kernel_rfl) (by kernel_rfl) (fun _ _ _ h => h) (by rfl) ?_ hS9 ?_
        rotate_left
        · (intro W hW; obtain ⟨hb, c0', c1', c2', c3'⟩ := HFs.out _ (HS0.out.trans hW); go_simp; with_reducible rfl)
        refine held_norm (a' := ?_) ?_ ?_
        rotate_left
        · (go_simp; with_reducible rfl)
        refine held_take 58 (v := ?_) rfl (by kernel_rfl) (by kernel_rfl) (by kernel_rfl) (fun _ _ _ h => h) (by rfl) ?_ hS9 ?_
        rotate_left
        · (intro W hW; skip; go_simp; with_reducible rfl)
        refine held_take 59 (v := ?_) rfl (by kernel_rfl) (by kernel_rfl) (by kernel_rfl) (fun _ _ _ h => h) (by rfl) ?_ hS9 ?_
        rotate_left
        · (intro W hW; skip; go_simp; with_reducible rfl)
        refine held_take 60 (v := ?_) rfl (by kernel_rfl) (by kernel_rfl) (by kernel_rfl) (fun _ _ _ h => h) (by rfl) ?_ hS9 ?_
        rotate_left
        · (intro W hW; skip; go_simp; with_reducible rfl)
        refine held_take 61 (v := ?_) rfl (by kernel_rfl) (by kernel_rfl) (by kernel_rfl) (fun _ _ _ h => h) (by rfl) ?_ hS9 ?_
        rotate_left
        · (intro W hW; skip; go_simp; with_reducible rfl)
        refine held_norm (a' := ?_) ?_ ?_
        rotate_left
        · (go_simp; with_reducible rfl)
        refine held_take 62 (v := ?_) rfl (by kernel_rfl) (by kernel_rfl) (by kernel_rfl) (fun _ _ _ h => h) (by rfl) ?_ hS9 ?_
        rotate_left
        · (intro W hW; obtain ⟨hb, c0', c1', c2', c3'⟩ := HFs.out _ (HS0.out.trans hW); go_simp; with_reducible rfl)
        refine held_take 63 (v := ?_) rfl (by kernel_rfl) (by kernel_rfl) (by kernel_rfl) (fun _ _ _ h => h) (by rfl) ?_ hS9 ?_
        rotate_left
        · (intro W hW; obtain ⟨hb, c0', c1', c2', c3'⟩ := HFs.out _ (HS0.out.trans hW); go_simp; with_reducible rfl)
        refine held_norm (a' := ?_) ?_ ?_
        rotate_left
        · (go_simp; with_reducible rfl)
        refine held_take 64 (v := ?_) rfl (by kernel_rfl) (by kernel_rfl) (by kernel_rfl) (fun _ _ _ h => h) (by rfl) ?_ hS9 ?_
        rotate_left
        · (intro W hW; skip; go_simp; with_reducible rfl)
        refine held_take 65 (v := ?_) rfl (by kernel_rfl) (by kernel_rfl) (by kernel_rfl) (fun _ _ _ h => h) (by rfl) ?_ hS9 ?_
        rotate_left
        · (intro W hW; skip; go_simp; with_reducible rfl)
        refine held_norm (a' := ?_) ?_ ?_
        rotate_left
        · (go_simp; with_reducible rfl)
        refine held_take 66 (v := ?_) rfl (by kernel_rfl) (by kernel_rfl) (by kernel_rfl) (fun _ _ _ h => h) (by rfl) ?_ hS9 ?_
        rotate_left
        · (intro W hW; skip; go_simp; with_reducible rfl)
        refine held_norm (a' := ?_) ?_ ?_
        rotate_left
        · (go_simp; with_reducible rfl)
        refine held_done (by kernel_rfl) ?_
        have HS9 := Lib.hid (HS0.out.trans hS9)
        clear hS9 hg9 hS8 hg8 hS1
        obtain ⟨hbF, hj⟩ := HJ.out _ HS9.out
        obtain ⟨ql, q0, q1, q2, q3, q4, q5, q6, q7, q8, q9, q10, q11⟩ := qy_in (HBqr.out.grew HS9.out)
        obtain ⟨xl, x0, x1, x2, x3, x4, x5⟩ := nm_in (HBnr.out.grew HS9.out)
        rcases hsc with hsc | hsc
        · have t8 : decide ((nx.scan.length : Int) ≤ (f : Int)) = false := decide_eq_false (by omega)
          have t8n : decide (nx.scan.length ≤ f) = false := decide_eq_false (by omega)
          clear hsc
          have hqb : q ≤ 1001000 := by have := HLl.out; have := HLq.out; omega
          go_wp2_with fail
          exact ⟨⟨q + 1, by have := HLq.out; omega, by go_num, HG.out.trans HS9.out⟩, by simp only [intOf]; have := HLq.out; omega⟩
        · have t8 : decide ((nx.scan.length : Int) ≤ (f : Int)) = true := decide_eq_true (by omega)
          have t8n : decide (nx.scan.length ≤ f) = true := decide_eq_true hsc
          have t8m := hsc
          have h2 := HJf.out hsc
          have t9 : (jf == 2) = false := by rw [beq_eq_false_iff_ne]; exact h2.1
          have t10 : (jf == 4) = false := by rw [beq_eq_false_iff_ne]; exact h2.2
          have t11 : (nx.scan.length : Int) ≤ (f : Int) := by omega
          clear hsc h2
          have hqb : q ≤ 1001000 := by have := HLl.out; have := HLq.out; omega
          go_wp2_with fail
          exact ⟨⟨q + 1, by have := HLq.out; omega, by go_num, HG.out.trans HS9.out⟩, by simp only [intOf]; have := HLq.out; omega⟩
      · obtain rfl : q = ll := by omega
        go_wp2_with (go_at_call 7; (with_reducible refine (HLv.out _).grows.mono ?_); rintro e9 w9 ⟨rfl, hg9⟩; have HG9 := Lib.hid hg9; clear hg9)
        go_ret
        exact ⟨rfl, ((HG2.out.trans HG5.out).trans HG.out).trans HG9.out⟩
  · unfold Gives
    unfold qyC at *
    go_enter Try.func3, Try.ntmps3
    go_upto_region 1 with fail
    obtain ⟨W0, hW0⟩ : ∃ W0, W0 = (w.alloc (.cells (qyC it sr wh gr A k B j C c D d) 29)) := ⟨_, rfl⟩
    have HBq : Hid (Blok W0 w.heap.size 29 (qyC it sr wh gr A k B j C c D d)) := Lib.hid (by rw [hW0]; exact (Blok.new _ _ _ _ rfl))
    have HG0 : Hid (Grew w W0) := Lib.hid (by rw [hW0]; exact ((Grew.refl w).alloc _))
    unfold qyC at hW0
    rw [← hW0]
    clear hW0
    generalize hbq : w.heap.size = bq at *
    clear hbq
    obtain ⟨xl, x0, x1, x2, x3, x4, x5, x6, x7, x8, x9, x10, x11⟩ := qy_in HBq.out
    go_wp2_with fail
    refine (HMq.out _ HG0.out).mono ?_
    rintro e w1 ⟨t1, rfl, hg1, hq1⟩
    have HG1 := Lib.hid (HG0.out.trans hg1)
    have HBq1 := Lib.hid (HBq.out.grew hg1)
    clear hg1 HBq HG0 xl x0 x1 x2 x3 x4 x5 x6 x7 x8 x9 x10 x11
    cases t1
    rotate_left
    · go_wp2_with (go_at_call 7; (with_reducible refine (HLv.out _).grows.mono ?_); rintro e9 w9 ⟨rfl, hg9⟩; have HG9 := Lib.hid hg9; clear hg9)
      go_ret
      exact ⟨rfl, HG1.out.trans HG9.out⟩
    by_cases h20 : 20 < ol
    · have e1 : decide ((20 : Int) < (ol : Int)) = true := decide_eq_true (by omega)
      have e2 : (20 : Int) < (ol : Int) := by omega
      clear hq1 h20
      go_wp2_with (go_at_call 7; (with_reducible refine (HLv.out _).grows.mono ?_); rintro e9 w9 ⟨rfl, hg9⟩; have HG9 := Lib.hid hg9; clear hg9)
      go_ret
      exact ⟨rfl, HG1.out.trans HG9.out⟩
    have e20 : decide ((20 : Int) < (ol : Int)) = false := decide_eq_false (by omega)
    have e21 : ¬ (20 : Int) < (ol : Int) := by omega
    have HOo : Hid (order.length ≤ 20) := Lib.hid (by rw [HOl.out]; omega)
    clear h20
    have hgq : goodQ ⟨it, sr, wh, gr⟩ := hq1 rfl
    clear hq1 HMq
    have hsr12 : sr.length ≤ 12 := hgq.src
    have HOr : Hid (∀ W, Grew w W → Calls Try.prog 8 #[.agg (qyC it sr wh gr A k B j C c D d)] W (NormF W (normX sr wh))) := Lib.hid fun W hW => nrof_any it sr wh gr A k B j C c D d W (by omega) hgq.on hgq.wh (RB.out.grew hW) (RC.out.grew hW)
    have hne : (normX sr wh).edges.length ≤ 3000 := by
      have hal : (allX sr wh (coreN sr)).length ≤ 2600 := by
        have h1 := allP_len sr hgq.on (coreN sr)
        have h2 := Nat.le_trans (partsX_len wh) hgq.wh
        unfold allX
        rw [List.length_append]
        omega
      show (nE (coreN sr) _).length ≤ _
      unfold nE
      rw [List.length_map]
      have := List.length_filter_le (fun x => decide (whereI x (coreN sr) = 3)) (allX sr wh (coreN sr))
      omega
    have HNe := Lib.hid hne
    have HKs : Hid (∀ x ∈ (normX sr wh).late, x.keys.length ≤ 3000) := Lib.hid fun x hx => Nat.le_trans (n31_keys wh hgq.on x hx) (by decide)
    have HSum := Lib.hid (n31_sum sr wh)
    have HSr := Lib.hid hsr12
    have HJn : Hid (∀ (f : Nat) (h2 : f < sr.length), (normX sr wh).scan.length ≤ f → (jsI (normX sr wh).late).getD ((f : Int) - ((normX sr wh).scan.length : Int)).toNat 0 = sr[f].join) := Lib.hid fun f h2 h1 => n31_join wh h1 h2
    clear hgq hsr12 hne RC
    generalize normX sr wh = nx at *
    unfold qyC at *
    obtain ⟨xl, x0, x1, x2, x3, x4, x5, x6, x7, x8, x9, x10, x11⟩ := qy_in HBq1.out
    go_upto_region 4 with (go_at_call 8; (with_reducible refine (HOr.out _ HG1.out).mono ?_); rintro e2 w2 ⟨A1, k1, B1, j1, C1, c1, D1, d1, E1, f1, rfl, hg2, hm2⟩; unfold nmC)
    have HBn : Hid (Blok (w2.alloc (.cells #[.int .i64 nx.core, .slice A1 nx.scan.length k1, .slice B1 nx.edges.length j1, .slice C1 nx.rest.length c1, .slice D1 nx.late.length d1, .slice E1 nx.wh.length f1] 37)) w2.heap.size 37 #[.int .i64 nx.core, .slice A1 nx.scan.length k1, .slice B1 nx.edges.length j1, .slice C1 nx.rest.length c1, .slice D1 nx.late.length d1, .slice E1 nx.wh.length f1]) := Lib.hid (Blok.new _ _ _ _ rfl)
    have HG12 : Hid (Grew w1 (w2.alloc (.cells #[.int .i64 nx.core, .slice A1 nx.scan.length k1, .slice B1 nx.edges.length j1, .slice C1 nx.rest.length c1, .slice D1 nx.late.length d1, .slice E1 nx.wh.length f1] 37))) := Lib.hid (hg2.alloc _)
    have HG2 := Lib.hid (HG1.out.trans HG12.out)
    have HEd : Hid (EdsR (PRow (w2.alloc (.cells #[.int .i64 nx.core, .slice A1 nx.scan.length k1, .slice B1 nx.edges.length j1, .slice C1 nx.rest.length c1, .slice D1 nx.late.length d1, .slice E1 nx.wh.length f1] 37))) B1 nx.edges) := Lib.hid (hm2.edges.grew ((Grew.refl w2).alloc _))
    have HLa : Hid (LasR (PRow (w2.alloc (.cells #[.int .i64 nx.core, .slice A1 nx.scan.length k1, .slice B1 nx.edges.length j1, .slice C1 nx.rest.length c1, .slice D1 nx.late.length d1, .slice E1 nx.wh.length f1] 37))) D1 nx.late) := Lib.hid (hm2.late.grew ((Grew.refl w2).alloc _))
    have HRo : Hid (Row (w2.alloc (.cells #[.int .i64 nx.core, .slice A1 nx.scan.length k1, .slice B1 nx.edges.length j1, .slice C1 nx.rest.length c1, .slice D1 nx.late.length d1, .slice E1 nx.wh.length f1] 37)) S (iV order)) := Lib.hid (RS.out.grew HG2.out)
    clear hg2 hm2 xl x0 x1 x2 x3 x4 x5 x6 x7 x8 x9 x10 x11 HOr
    generalize (w2.alloc (.cells #[.int .i64 nx.core, .slice A1 nx.scan.length k1, .slice B1 nx.edges.length j1, .slice C1 nx.rest.length c1, .slice D1 nx.late.length d1, .slice E1 nx.wh.length f1] 37)) = W1 at *
    generalize w2.heap.size = bn at *
    have HBq2 := Lib.hid (HBq1.out.grew HG12.out)
    clear HBq1 HG12
    have HAl : Hid (∀ W, Grew W1 W → Calls Try.prog 9 #[.agg #[.int .i64 nx.core, .slice A1 nx.scan.length k1, .slice B1 nx.edges.length j1, .slice C1 nx.rest.length c1, .slice D1 nx.late.length d1, .slice E1 nx.wh.length f1], .slice S ol ks] W (FlsF W ((allI (clI (clsE nx.edges)) nx.scan.length nx.late order).map fvF))) := Lib.hid fun W hW => by
      have := pall_any nx.core nx.edges nx.late order S ks A1 nx.scan.length k1 B1 j1 C1 nx.rest.length c1 D1 d1 E1 nx.wh.length f1 W (by have := HSum.out; have := HSr.out; omega) HNe.out HKs.out (by have := HOo.out; omega) (HLa.out.grew hW) (HEd.out.grew hW) (HRo.out.grew hW)
      rw [HOl.out] at this
      exact this
    have HAr : Hid (∀ W, Grew W1 W → Calls Try.prog 11 #[.agg #[.int .i64 nx.core, .slice A1 nx.scan.length k1, .slice B1 nx.edges.length j1, .slice C1 nx.rest.length c1, .slice D1 nx.late.length d1, .slice E1 nx.wh.length f1], .slice S ol ks] W (FlsF W ((allI (clI (clsE nx.edges)) nx.scan.length nx.late order).map fvF))) := Lib.hid fun W hW => by
      have := rall31_any nx.core nx.edges nx.late order S ks A1 nx.scan.length k1 B1 j1 C1 nx.rest.length c1 D1 d1 E1 nx.wh.length f1 W (by have := HSum.out; have := HSr.out; omega) HNe.out HKs.out (by have := HOo.out; omega) (HLa.out.grew hW) (HEd.out.grew hW) (HRo.out.grew hW)
      rw [HOl.out] at this
      exact this
    have HRk : Hid (∀ (t : Nat) W, t < nx.scan.length + nx.late.length → Grew W1 W → Gives Try.prog 12 #[.agg #[.int .i64 nx.core, .slice A1 nx.scan.length k1, .slice B1 nx.edges.length j1, .slice C1 nx.rest.length c1, .slice D1 nx.late.length d1, .slice E1 nx.wh.length f1], .slice S ol ks, .int .i64 t] W (.int .i64 (rankI nx.scan.length (jsI nx.late) order t))) := Lib.hid fun t W ht hW => by
      have := rrank31_any nx.core nx.late order S ks t A1 nx.scan.length k1 B1 nx.edges.length j1 C1 nx.rest.length c1 D1 d1 E1 nx.wh.length f1 W (by have := HSum.out; have := HSr.out; omega) (by have := HSum.out; have := HSr.out; omega) (by have := HOo.out; omega) ht (HLa.out.grew hW) (HRo.out.grew hW)
      rw [HOl.out] at this
      exact this
    have HGd : Hid (∀ v ∈ (allI (clI (clsE nx.edges)) nx.scan.length nx.late order).map fvF, GoodF nx.scan.length nx.late order v) := Lib.hid (good31 HKs.out)
    have HLl : Hid (((allI (clI (clsE nx.edges)) nx.scan.length nx.late order).map fvF).length ≤ 1001000) := Lib.hid (all31_len (by have := HSum.out; have := HSr.out; omega))
    generalize (allI (clI (clsE nx.edges)) nx.scan.length nx.late order).map fvF = L at *
    have HSm : Hid (∀ X x Y y W, FvsR (PRow W) X L → FvsR (PRow W) Y L → Gives Try.prog 10 #[.slice X L.length x, .slice Y L.length y] W (.bool true)) := Lib.hid fun X x Y y W h1 h2 => rsame31_any L X Y x y (by have := HLl.out; omega) (fun v hv => by have h := HGd.out v hv; have h1 := h.few; have h2 := h.same; omega) W h1 h2
    clear HKs HNe HEd HLa e20 e21
    obtain ⟨xl, x0, x1, x2, x3, x4, x5⟩ := nm_in HBn.out
    go_upto_region 5 with (go_at_call 9; (with_reducible refine (HAl.out _ (Grew.refl _)).mono ?_); rintro e3 w3 ⟨A3, k3, rfl, hg3, hf3⟩; have HG3 := Lib.hid hg3; have HF3 := Lib.hid hf3; clear hg3 hf3)
    clear xl x0 x1 x2 x3 x4 x5
    obtain ⟨xl, x0, x1, x2, x3, x4, x5⟩ := nm_in (HBn.out.grew HG3.out)
    go_wp2_with (first | (go_at_call 11; (with_reducible refine (HAr.out _ HG3.out).mono ?_); rintro e4 w4 ⟨A4, k4, rfl, hg4, hf4⟩; have HG4 := Lib.hid (HG3.out.trans hg4); have HF4 := Lib.hid hf4; have HF5 := Lib.hid (HF3.out.grew hg4); clear hg4 hf4) | (go_at_call 10; (with_reducible refine (HSm.out _ _ _ _ _ HF5.out HF4.out).grows.mono ?_); rintro e5 w5 ⟨rfl, hg5⟩; have HG5 := Lib.hid (HG4.out.trans hg5); have HF6 := Lib.hid (HF5.out.grew hg5); clear hg5))
    clear xl x0 x1 x2 x3 x4 x5 HAl HAr HSm HF3 HF4 HF5 HG3 HG4
    generalize hLl : L.length = ll at *
    have HLe := Lib.hid hLl
    clear hLl
    go_loopw [7, 45, 46, 47, 48, 49, 50, 51, 52, 53, 54, 55, 56, 57, 58, 59, 60, 61, 62, 63, 64, 65, 66, 67, 68, 69, 70, 71, 72, 73, 74, 75, 76, 77, 78, 79, 80, 81, 82, 83, 84, 85, 86, 87, 88, 89, 90, 91, 92, 93, 94, 95, 96, 97, 98, 99, 100, 101, 102, 103, 104, 105, 106, 107, 108, 109, 110, 111] (fun i _ _ _ _ _ _ _ _ _ _ _ _ _ _ _ _ _ _ _ _ _ _ _ _ _ _ _ _ _ _ _ _ _ _ _ _ _ _ _ _ _ _ _ _ _ _ _ _ _ _ _ _ _ _ _ _ _ _ _ _ _ _ _ _ _ _ _ wr => Pa31At w5 ll i wr) (fun i _ _ _ _ _ _ _ _ _ _ _ _ _ _ _ _ _ _ _ _ _ _ _ _ _ _ _ _ _ _ _ _ _ _ _ _ _ _ _ _ _ _ _ _ _ _ _ _ _ _ _ _ _ _ _ _ _ _ _ _ _ _ _ _ _ _ _ _ => ll - (intOf i).toNat)
    case atStart => exact ⟨0, Nat.zero_le _, rfl, Grew.refl _⟩
    case round =>
      obtain ⟨q, hq, rfl, hg⟩ := hrel
      have HG := Lib.hid hg
      clear hg
      by_cases hlt : q < ll
      · have HLq := Lib.hid hlt
        have hq' : q < L.length := by rw [HLe.out]; exact hlt
        obtain ⟨b, o, X, x, Y, y, rfl, hb, c0', c1', c2', c3', _, _⟩ := fvsR_at (HF6.out.grew HG.out) hq'
        have hgd := HGd.out _ (List.getElem_mem hq')
        generalize L[q] = v at *
        obtain ⟨⟨f, t, ef, et, hf, ht, hrk, hhd, hjn⟩, hs1, hs2, _⟩ := hgd
        rw [ef] at c0'
        rw [et] at c2'
        rw [← hs2] at c3'
        generalize v.a.length = na at *
        clear hs2 ef et hq'
        have hfs : f < sr.length := by have := HSum.out; omega
        have HFs : Hid (∀ W, Grew wr W → b < W.heap.size ∧ W.cell? ⟨b, o + q * 4, none⟩ = some (.int .i64 f) ∧ W.cell? ⟨b, o + q * 4 + 1, none⟩ = some (.slice X na x) ∧ W.cell? ⟨b, o + q * 4 + 2, none⟩ = some (.int .i64 t) ∧ W.cell? ⟨b, o + q * 4 + 3, none⟩ = some (.slice Y na y)) := Lib.hid fun W hW => ⟨Nat.lt_of_lt_of_le hb hW.size, cell_keep hW hb c0', cell_keep hW hb c1', cell_keep hW hb c2', cell_keep hW hb c3'⟩
        clear hb c0' c1' c2' c3'
        have HR1 : Hid (∀ W, Grew W1 W → Gives Try.prog 12 #[.agg #[.int .i64 nx.core, .slice A1 nx.scan.length k1, .slice B1 nx.edges.length j1, .slice C1 nx.rest.length c1, .slice D1 nx.late.length d1, .slice E1 nx.wh.length f1], .slice S ol ks, .int .i64 f] W (.int .i64 (rankI nx.scan.length (jsI nx.late) order f))) := Lib.hid fun W hW => HRk.out f W hf hW
        have HR2 : Hid (∀ W, Grew W1 W → Gives Try.prog 12 #[.agg #[.int .i64 nx.core, .slice A1 nx.scan.length k1, .slice B1 nx.edges.length j1, .slice C1 nx.rest.length c1, .slice D1 nx.late.length d1, .slice E1 nx.wh.length f1], .slice S ol ks, .int .i64 t] W (.int .i64 (rankI nx.scan.length (jsI nx.late) order t))) := Lib.hid fun W hW => HRk.out t W ht hW
        generalize rankI nx.scan.length (jsI nx.late) order f = rf at *
        generalize rankI nx.scan.length (jsI nx.late) order t = rt at *
        obtain ⟨bF, oF, BF, kF, hBA, _, _, hj, _, _⟩ := frsR_at (RB.out.grew (HG2.out.trans (HG5.out.trans HG.out))) hfs
        have hbF : bF < wr.heap.size := by
          obtain ⟨bF', oF', _, _, hBA', _, hbF', _⟩ := frsR_all (RB.out.grew (HG2.out.trans (HG5.out.trans HG.out))) hfs
          rw [hBA] at hBA'
          cases hBA'
          exact hbF'
        have hjf : nx.scan.length ≤ f → sr[f].join ≠ 2 ∧ sr[f].join ≠ 4 := fun h => by rw [← HJn.out f hfs h]; exact hjn h
        subst hBA
        have HJ : Hid (∀ W, Grew wr W → bF < W.heap.size ∧ W.cell? ⟨bF, oF + f * 12, none⟩ = some (.int .i64 sr[f].join)) := Lib.hid fun W hW => ⟨Nat.lt_of_lt_of_le hbF hW.size, cell_keep hW hbF hj⟩
        generalize sr[f].join = jf at *
        have t1 : decide ((f : Int) < 0) = false := decide_eq_false (by omega)
        have t2 : decide ((sr.length : Int) ≤ (f : Int)) = false := decide_eq_false (by omega)
        have t3 : decide ((t : Int) < 0) = false := decide_eq_false (by omega)
        have t4 : decide ((sr.length : Int) ≤ (t : Int)) = false := decide_eq_false (by have := HSum.out; omega)
        have t2n : decide (sr.length ≤ f) = false := decide_eq_false (by omega)
        have t4n : decide (sr.length ≤ t) = false := decide_eq_false (by have := HSum.out; omega)
        have t5 : decide (rf ≤ rt) = false := decide_eq_false (by omega)
        have t6 : ((na : Int) == 0) = false := by rw [beq_eq_false_iff_ne]; omega
        have t7 : ((na : Int) != (na : Int)) = false := by simp
        have HHd := Lib.hid hhd
        have HJf := Lib.hid hjf
        clear hhd hjf hjn hj hbF hrk hs1 HRk HGd
        have HBqr := Lib.hid (HBq2.out.grew (HG5.out.trans HG.out))
        have HBnr := Lib.hid (HBn.out.grew (HG5.out.trans HG.out))
        have HRr := Lib.hid (HRo.out.grew (HG5.out.trans HG.out))
        go_upto_region 10 with fail
        have hS0 : Grew wr wr.drew := (Grew.refl wr).drew
        refine wp_region_S (fun W => Grew wr W) (by kernel_rfl) ?_
        refine held_take 0 (v := ?_) rfl (by kernel_rfl) (by kernel_rfl) (by kernel_rfl) (fun _ _ _ h => h) (by rfl) ?_ hS0 ?_
        rotate_left
        · (intro W hW; obtain ⟨hb, c0', c1', c2', c3'⟩ := HFs.out _ hW; go_simp; with_reducible rfl)
        refine held_take 1 (v := ?_) rfl (by kernel_rfl) (by kernel_rfl) (by kernel_rfl) (fun _ _ _ h => h) (by rfl) ?_ hS0 ?_
        rotate_left
        · (intro W hW; obtain ⟨hb, c0', c1', c2', c3'⟩ := HFs.out _ hW; go_simp; with_reducible rfl)
        refine held_take 2 (v := ?_) rfl (by kernel_rfl) (by kernel_rfl) (by kernel_rfl) (fun _ _ _ h => h) (by rfl) ?_ hS0 ?_
        rotate_left
        · (intro W hW; obtain ⟨hb, c0', c1', c2', c3'⟩ := HFs.out _ hW; go_simp; with_reducible rfl)
        refine held_take 3 (v := ?_) rfl (by kernel_rfl) (by kernel_rfl) (by kernel_rfl) (fun _ _ _ h => h) (by rfl) ?_ hS0 ?_
        rotate_left
        · (intro W hW; obtain ⟨hb, c0', c1', c2', c3'⟩ := HFs.out _ hW; go_simp; with_reducible rfl)
        refine held_take 4 (v := ?_) rfl (by kernel_rfl) (by kernel_rfl) (by kernel_rfl) (fun _ _ _ h => h) (by rfl) ?_ hS0 ?_
        rotate_left
        · (intro W hW; obtain ⟨hb, c0', c1', c2', c3'⟩ := HFs.out _ hW; go_simp; with_reducible rfl)
        refine held_take 5 (v := ?_) rfl (by kernel_rfl) (by kernel_rfl) (by kernel_rfl) (fun _ _ _ h => h) (by rfl) ?_ hS0 ?_
        rotate_left
        · (intro W hW; obtain ⟨hb, c0', c1', c2', c3'⟩ := HFs.out _ hW; go_simp; with_reducible rfl)
        refine held_take 6 (v := ?_) rfl (by kernel_rfl) (by kernel_rfl) (by kernel_rfl) (fun _ _ _ h => h) (by rfl) ?_ hS0 ?_
        rotate_left
        · (intro W hW; obtain ⟨hb, c0', c1', c2', c3'⟩ := HFs.out _ hW; go_simp; with_reducible rfl)
        refine held_take 7 (v := ?_) rfl (by kernel_rfl) (by kernel_rfl) (by kernel_rfl) (fun _ _ _ h => h) (by rfl) ?_ hS0 ?_
        rotate_left
        · (intro W hW; obtain ⟨hb, c0', c1', c2', c3'⟩ := HFs.out _ hW; go_simp; with_reducible rfl)
        refine held_take 8 (v := ?_) rfl (by kernel_rfl) (by kernel_rfl) (by kernel_rfl) (fun _ _ _ h => h) (by rfl) ?_ hS0 ?_
        rotate_left
        · (intro W hW; obtain ⟨hb, c0', c1', c2', c3'⟩ := HFs.out _ hW; go_simp; with_reducible rfl)
        refine held_take 9 (v := ?_) rfl (by kernel_rfl) (by kernel_rfl) (by kernel_rfl) (fun _ _ _ h => h) (by rfl) ?_ hS0 ?_
        rotate_left
        · (intro W hW; obtain ⟨hb, c0', c1', c2', c3'⟩ := HFs.out _ hW; go_simp; with_reducible rfl)
        refine held_take 10 (v := ?_) rfl (by kernel_rfl) (by kernel_rfl) (by kernel_rfl) (fun _ _ _ h => h) (by rfl) ?_ hS0 ?_
        rotate_left
        · (intro W hW; obtain ⟨hb, c0', c1', c2', c3'⟩ := HFs.out _ hW; go_simp; with_reducible rfl)
        refine held_take 11 (v := ?_) rfl (by kernel_rfl) (by kernel_rfl) (by kernel_rfl) (fun _ _ _ h => h) (by rfl) ?_ hS0 ?_
        rotate_left
        · (intro W hW; obtain ⟨hb, c0', c1', c2', c3'⟩ := HFs.out _ hW; go_simp; with_reducible rfl)
        refine held_norm (a' := ?_) ?_ ?_
        rotate_left
        · (go_simp; with_reducible rfl)
        refine held_done (by kernel_rfl) ?_
        have HS0 := Lib.hid hS0
        clear hS0
        generalize wr.drew = w7 at *
        have HBq7 := Lib.hid (HBqr.out.grew HS0.out)
        have HBn7 := Lib.hid (HBnr.out.grew HS0.out)
        obtain ⟨hb, c0', c1', c2', c3'⟩ := HFs.out _ HS0.out
        obtain ⟨hbF, hj⟩ := HJ.out _ HS0.out
        obtain ⟨ql, q0, q1, q2, q3, q4, q5, q6, q7, q8, q9, q10, q11⟩ := qy_in (HBqr.out.grew HS0.out)
        obtain ⟨xl, x0, x1, x2, x3, x4, x5⟩ := nm_in (HBnr.out.grew HS0.out)
        have hsc : ¬ nx.scan.length ≤ f ∨ nx.scan.length ≤ f := by omega
        have h0 : 0 < order.length := by rw [HOl.out]; exact hpos
        obtain ⟨z, hz⟩ : ∃ z, order.head? = some z := by rw [List.head?_eq_getElem?, List.getElem?_eq_getElem h0]; exact ⟨_, rfl⟩
        have hy : ¬ (f : Int) = z := fun e => HHd.out (by rw [hz, e])
        have e0 : decide ((0 : Int) < (ol : Int)) = true := decide_eq_true (by have := HOl.out; omega)
        have e00 : (0 : Int) < (ol : Int) := by have := HOl.out; omega
        have e01 : 0 < ol := by have := HOl.out; omega
        have e02 : decide (0 < ol) = true := decide_eq_true e01
        obtain ⟨b7, o7, rfl, hb7, hc7⟩ := rowI_at (HRr.out.grew HS0.out) h0
        have hm0 : order[0] = z := by rw [List.head?_eq_getElem?, List.getElem?_eq_getElem h0] at hz; injection hz
        rw [hm0, Nat.add_zero] at hc7
        have e5 : ((f : Int) == z) = false := by rw [beq_eq_false_iff_ne]; exact hy
        clear hm0 hz h0 hy
        go_upto_region 11 with fail
        clear hb c0' c1' c2' c3' hbF hj ql q0 q1 q2 q3 q4 q5 q6 q7 q8 q9 q10 q11 xl x0 x1 x2 x3 x4 x5
        have hS1 : Grew w7 w7.drew := (Grew.refl w7).drew
        refine wp_region_S (fun W => Grew w7 W) (by kernel_rfl) ?_
        refine held_take 0 (v := ?_) rfl (by kernel_rfl) (by kernel_rfl) (by kernel_rfl) (fun _ _ _ h => h) (by rfl) ?_ hS1 ?_
        rotate_left
        · (intro W hW; skip; go_simp; with_reducible rfl)
        refine held_take 1 (v := ?_) rfl (by kernel_rfl) (by kernel_rfl) (by kernel_rfl) (fun _ _ _ h => h) (by rfl) ?_ hS1 ?_
        rotate_left
        · (intro W hW; skip; go_simp; with_reducible rfl)
        refine held_take 2 (v := ?_) rfl (by kernel_rfl) (by kernel_rfl) (by kernel_rfl) (fun _ _ _ h => h) (by rfl) ?_ hS1 ?_
        rotate_left
        · (intro W hW; skip; go_simp; with_reducible rfl)
        refine held_norm (a' := ?_) ?_ ?_
        rotate_left
        · (go_simp; with_reducible rfl)
        refine held_take 3 (v := ?_) rfl (by kernel_rfl) (by kernel_rfl) (by kernel_rfl) (fun _ _ _ h => h) (by rfl) ?_ hS1 ?_
        rotate_left
        · (intro W hW; obtain ⟨ql, q0, q1, q2, q3, q4, q5, q6, q7, q8, q9, q10, q11⟩ := qy_in (HBq7.out.grew hW); go_simp; with_reducible rfl)
        refine held_take 4 (v := ?_) rfl (by kernel_rfl) (by kernel_rfl) (by kernel_rfl) (fun _ _ _ h => h) (by rfl) ?_ hS1 ?_
        rotate_left
        · (intro W hW; obtain ⟨ql, q0, q1, q2, q3, q4, q5, q6, q7, q8, q9, q10, q11⟩ := qy_in (HBq7.out.grew hW); go_simp; with_reducible rfl)
        refine held_take 5 (v := ?_) rfl (by kernel_rfl) (by kernel_rfl) (by kernel_rfl) (fun _ _ _ h => h) (by rfl) ?_ hS1 ?_
        rotate_left
        · (intro W hW; obtain ⟨ql, q0, q1, q2, q3, q4, q5, q6, q7, q8, q9, q10, q11⟩ := qy_in (HBq7.out.grew hW); go_simp; with_reducible rfl)
        refine held_norm (a' := ?_) ?_ ?_
        rotate_left
        · (go_simp; with_reducible rfl)
        refine held_take 6 (v := ?_) rfl (by kernel_rfl) (by kernel_rfl) (by kernel_rfl) (fun _ _ _ h => h) (by rfl) ?_ hS1 ?_
        rotate_left
        · (intro W hW; skip; go_simp; with_reducible rfl)
        refine held_take 7 (v := ?_) rfl (by kernel_rfl) (by kernel_rfl) (by kernel_rfl) (fun _ _ _ h => h) (by rfl) ?_ hS1 ?_
        rotate_left
        · (intro W hW; skip; go_simp; with_reducible rfl)
        refine held_norm (a' := ?_) ?_ ?_
        rotate_left
        · (go_simp; with_reducible rfl)
        refine held_take 8 (v := ?_) rfl (by kernel_rfl) (by kernel_rfl) (by kernel_rfl) (fun _ _ _ h => h) (by rfl) ?_ hS1 ?_
        rotate_left
        · (intro W hW; skip; go_simp; with_reducible rfl)
        refine held_take 9 (v := ?_) rfl (by kernel_rfl) (by kernel_rfl) (by kernel_rfl) (fun _ _ _ h => h) (by rfl) ?_ hS1 ?_
        rotate_left
        · (intro W hW; skip; go_simp; with_reducible rfl)
        refine held_norm (a' := ?_) ?_ ?_
        rotate_left
        · (go_simp; with_reducible rfl)
        refine held_take 10 (v := ?_) rfl (by kernel_rfl) (by kernel_rfl) (by kernel_rfl) (fun _ _ _ h => h) (by rfl) ?_ hS1 ?_
        rotate_left
        · (intro W hW; skip; go_simp; with_reducible rfl)
        refine held_take 11 (v := ?_) rfl (by kernel_rfl) (by kernel_rfl) (by kernel_rfl) (fun _ _ _ h => h) (by rfl) ?_ hS1 ?_
        rotate_left
        · (intro W hW; skip; go_simp; with_reducible rfl)
        refine held_norm (a' := ?_) ?_ ?_
        rotate_left
        · (go_simp; with_reducible rfl)
        refine held_take 12 (v := ?_) rfl (by kernel_rfl) (by kernel_rfl) (by kernel_rfl) (fun _ _ _ h => h) (by rfl) ?_ hS1 ?_
        rotate_left
        · (intro W hW; skip; go_simp; with_reducible rfl)
        refine held_take 13 (v := ?_) rfl (by kernel_rfl) (by kernel_rfl) (by kernel_rfl) (fun _ _ _ h => h) (by rfl) ?_ hS1 ?_
        rotate_left
        · (intro W hW; skip; go_simp; with_reducible rfl)
        refine held_norm (a' := ?_) ?_ ?_
        rotate_left
        · (go_simp; with_reducible rfl)
        refine held_take 14 (v := ?_) rfl (by kernel_rfl) (by kernel_rfl) (by kernel_rfl) (fun _ _ _ h => h) (by rfl) ?_ hS1 ?_
        rotate_left
        · (intro W hW; obtain ⟨ql, q0, q1, q2, q3, q4, q5, q6, q7, q8, q9, q10, q11⟩ := qy_in (HBq7.out.grew hW); go_simp; with_reducible rfl)
        refine held_take 15 (v := ?_) rfl (by kernel_rfl) (by kernel_rfl) (by kernel_rfl) (fun _ _ _ h => h) (by rfl) ?_ hS1 ?_
        rotate_left
        · (intro W hW; obtain ⟨ql, q0, q1, q2, q3, q4, q5, q6, q7, q8, q9, q10, q11⟩ := qy_in (HBq7.out.grew hW); go_simp; with_reducible rfl)
        refine held_take 16 (v := ?_) rfl (by kernel_rfl) (by kernel_rfl) (by kernel_rfl) (fun _ _ _ h => h) (by rfl) ?_ hS1 ?_
        rotate_left
        · (intro W hW; obtain ⟨ql, q0, q1, q2, q3, q4, q5, q6, q7, q8, q9, q10, q11⟩ := qy_in (HBq7.out.grew hW); go_simp; with_reducible rfl)
        refine held_norm (a' := ?_) ?_ ?_
        rotate_left
        · (go_simp; with_reducible rfl)
        refine held_take 17 (v := ?_) rfl (by kernel_rfl) (by kernel_rfl) (by kernel_rfl) (fun _ _ _ h => h) (by rfl) ?_ hS1 ?_
        rotate_left
        · (intro W hW; skip; go_simp; with_reducible rfl)
        refine held_take 18 (v := ?_) rfl (by kernel_rfl) (by kernel_rfl) (by kernel_rfl) (fun _ _ _ h => h) (by rfl) ?_ hS1 ?_
        rotate_left
        · (intro W hW; skip; go_simp; with_reducible rfl)
        refine held_norm (a' := ?_) ?_ ?_
        rotate_left
        · (go_simp; with_reducible rfl)
        refine held_take 19 (v := ?_) rfl (by kernel_rfl) (by kernel_rfl) (by kernel_rfl) (fun _ _ _ h => h) (by rfl) ?_ hS1 ?_
        rotate_left
        · (intro W hW; skip; go_simp; with_reducible rfl)
        refine held_take 20 (v := ?_) rfl (by kernel_rfl) (by kernel_rfl) (by kernel_rfl) (fun _ _ _ h => h) (by rfl) ?_ hS1 ?_
        rotate_left
        · (intro W hW; skip; go_simp; with_reducible rfl)
        refine held_norm (a' := ?_) ?_ ?_
        rotate_left
        · (go_simp; with_reducible rfl)
        refine held_take 21 (v := ?_) rfl (by kernel_rfl) (by kernel_rfl) (by kernel_rfl) (fun _ _ _ h => h) (by rfl) ?_ hS1 ?_
        rotate_left
        · (intro W hW; skip; go_simp; with_reducible rfl)
        refine held_take 22 (v := ?_) rfl (by kernel_rfl) (by kernel_rfl) (by kernel_rfl) (fun _ _ _ h => h) (by rfl) ?_ hS1 ?_
        rotate_left
        · (intro W hW; skip; go_simp; with_reducible rfl)
        refine held_take 23 (v := ?_) rfl (by kernel_rfl) (by kernel_rfl) (by kernel_rfl) (fun _ _ _ h => h) (by rfl) ?_ hS1 ?_
        rotate_left
        · (intro W hW; skip; go_simp; with_reducible rfl)
        refine held_take 24 (v := ?_) rfl (by kernel_rfl) (by kernel_rfl) (by kernel_rfl) (fun _ _ _ h => h) (by rfl) ?_ hS1 ?_
        rotate_left
        · (intro W hW; skip; go_simp; with_reducible rfl)
        refine held_norm (a' := ?_) ?_ ?_
        rotate_left
        · (go_simp; with_reducible rfl)
        refine held_take 25 (v := ?_) rfl (by kernel_rfl) (by kernel_rfl) (by kernel_rfl) (fun _ _ _ h => h) (by rfl) ?_ hS1 ?_
        rotate_left
        · (intro W hW; skip; go_simp; with_reducible rfl)
        refine held_take 26 (v := ?_) rfl (by kernel_rfl) (by kernel_rfl) (by kernel_rfl) (fun _ _ _ h => h) (by rfl) ?_ hS1 ?_
        rotate_left
        · (intro W hW; skip; go_simp; with_reducible rfl)
        refine held_take 27 (v := ?_) rfl (by kernel_rfl) (by kernel_rfl) (by kernel_rfl) (fun _ _ _ h => h) (by rfl) ?_ hS1 ?_
        rotate_left
        · (intro W hW; skip; go_simp; with_reducible rfl)
        refine held_norm (a' := ?_) ?_ ?_
        rotate_left
        · (go_simp; with_reducible rfl)
        refine held_take 28 (v := ?_) rfl (by kernel_rfl) (by kernel_rfl) (by kernel_rfl) (fun _ _ _ h => h) (by rfl) ?_ hS1 ?_
        rotate_left
        · (intro W hW; have hb8 := cell_keep hW hb7 hc7; have hl8 := Nat.lt_of_lt_of_le hb7 hW.size; go_simp; with_reducible rfl)
        refine held_take 29 (v := ?_) rfl (by kernel_rfl) (by kernel_rfl) (by kernel_rfl) (fun _ _ _ h => h) (by rfl) ?_ hS1 ?_
        rotate_left
        · (intro W hW; have hb8 := cell_keep hW hb7 hc7; have hl8 := Nat.lt_of_lt_of_le hb7 hW.size; go_simp; with_reducible rfl)
        refine held_norm (a' := ?_) ?_ ?_
        rotate_left
        · (go_simp; with_reducible rfl)
        refine held_take 30 (v := ?_) rfl (by kernel_rfl) (by kernel_rfl) (by kernel_rfl) (fun _ _ _ h => h) (by rfl) ?_ hS1 ?_
        rotate_left
        · (intro W hW; skip; go_simp; with_reducible rfl)
        refine held_norm (a' := ?_) ?_ ?_
        rotate_left
        · (go_simp; with_reducible rfl)
        refine held_take 31 (v := ?_) rfl (by kernel_rfl) (by kernel_rfl) (by kernel_rfl) (fun _ _ _ h => h) (by rfl) ?_ hS1 ?_
        rotate_left
        · (intro W hW; skip; go_simp; with_reducible rfl)
        refine held_take 32 (v := ?_) rfl (by kernel_rfl) (by kernel_rfl) (by kernel_rfl) (fun _ _ _ h => h) (by rfl) ?_ hS1 ?_
        rotate_left
        · (intro W hW; skip; go_simp; with_reducible rfl)
        refine held_norm (a' := ?_) ?_ ?_
        rotate_left
        · (go_simp; with_reducible rfl)
        refine held_take 33 (v := ?_) rfl (by kernel_rfl) (by kernel_rfl) (by kernel_rfl) (fun _ _ _ h => h) (by rfl) ?_ hS1 ?_
        rotate_left
        · (intro W hW; obtain ⟨xl, x0, x1, x2, x3, x4, x5⟩ := nm_in (HBn7.out.grew hW); go_simp; with_reducible rfl)
        refine held_take 34 (v := ?_) rfl (by kernel_rfl) (by kernel_rfl) (by kernel_rfl) (fun _ _ _ h => h) (by rfl) ?_ hS1 ?_
        rotate_left
        · (intro W hW; obtain ⟨xl, x0, x1, x2, x3, x4, x5⟩ := nm_in (HBn7.out.grew hW); go_simp; with_reducible rfl)
        refine held_take 35 (v := ?_) rfl (by kernel_rfl) (by kernel_rfl) (by kernel_rfl) (fun _ _ _ h => h) (by rfl) ?_ hS1 ?_
        rotate_left
        · (intro W hW; obtain ⟨xl, x0, x1, x2, x3, x4, x5⟩ := nm_in (HBn7.out.grew hW); go_simp; with_reducible rfl)
        refine held_norm (a' := ?_) ?_ ?_
        rotate_left
        · (go_simp; with_reducible rfl)
        refine held_take 37 (v := ?_) rfl (by kernel_rfl) (by kernel_rfl) (by kernel_rfl) (fun _ _ _ h => h) (by rfl) ?_ hS1 ?_
        rotate_left
        · (intro W hW; obtain ⟨xl, x0, x1, x2, x3, x4, x5⟩ := nm_in (HBn7.out.grew hW); go_simp; with_reducible rfl)
        refine held_take 38 (v := ?_) rfl (by kernel_rfl) (by kernel_rfl) (by kernel_rfl) (fun _ _ _ h => h) (by rfl) ?_ hS1 ?_
        rotate_left
        · (intro W hW; obtain ⟨xl, x0, x1, x2, x3, x4, x5⟩ := nm_in (HBn7.out.grew hW); go_simp; with_reducible rfl)
        refine held_take 39 (v := ?_) rfl (by kernel_rfl) (by kernel_rfl) (by kernel_rfl) (fun _ _ _ h => h) (by rfl) ?_ hS1 ?_
        rotate_left
        · (intro W hW; obtain ⟨xl, x0, x1, x2, x3, x4, x5⟩ := nm_in (HBn7.out.grew hW); go_simp; with_reducible rfl)
        refine held_norm (a' := ?_) ?_ ?_
        rotate_left
        · (go_simp; with_reducible rfl)
        refine held_call 36 (by kernel_rfl) rfl (by rfl) (fun K hK => ?_)
        go_simp
        go_wp2_with ((go_at_call 12; (with_reducible refine (HR1.out _ ((HG5.out.trans (HG.out.trans HS0.out)).trans hS1)).grows.mono ?_); rintro e8 w8 ⟨rfl, hg8⟩; have hS8 := hS1.trans hg8))
        refine hK.out _ _ hS8 ?_
        clear hK K
        refine held_call 40 (by kernel_rfl) rfl (by rfl) (fun K hK => ?_)
        go_simp
        go_wp2_with ((go_at_call 12; (with_reducible refine (HR2.out _ ((HG5.out.trans (HG.out.trans HS0.out)).trans hS8)).grows.mono ?_); rintro e9 w9 ⟨rfl, hg9⟩; have hS9 := hS8.trans hg9))
        refine hK.out _ _ hS9 ?_
        clear hK K
        refine held_take 41 (v := ?_) rfl (by kernel_rfl) (by kernel_rfl) (by kernel_rfl) (fun _ _ _ h => h) (by rfl) ?_ hS9 ?_
        rotate_left
        · (intro W hW; skip; go_simp; with_reducible rfl)
        refine held_norm (a' := ?_) ?_ ?_
        rotate_left
        · (go_simp; with_reducible rfl)
        refine held_take 42 (v := ?_) rfl (by kernel_rfl) (by kernel_rfl) (by kernel_rfl) (fun _ _ _ h => h) (by rfl) ?_ hS9 ?_
        rotate_left
        · (intro W hW; skip; go_simp; with_reducible rfl)
        refine held_take 43 (v := ?_) rfl (by kernel_rfl) (by kernel_rfl) (by kernel_rfl) (fun _ _ _ h => h) (by rfl) ?_ hS9 ?_
        rotate_left
        · (intro W hW; skip; go_simp; with_reducible rfl)
        refine held_norm (a' := ?_) ?_ ?_
        rotate_left
        · (go_simp; with_reducible rfl)
        refine held_take 44 (v := ?_) rfl (by kernel_rfl) (by kernel_rfl) (by kernel_rfl) (fun _ _ _ h => h) (by rfl) ?_ hS9 ?_
        rotate_left
        · (intro W hW; skip; go_simp; with_reducible rfl)
        refine held_take 45 (v := ?_) rfl (by kernel_rfl) (by kernel_rfl) (by kernel_rfl) (fun _ _ _ h => h) (by rfl) ?_ hS9 ?_
        rotate_left
        · (intro W hW; skip; go_simp; with_reducible rfl)
        refine held_take 46 (v := ?_) rfl (by kernel_rfl) (by kernel_rfl) (by kernel_rfl) (fun _ _ _ h => h) (by rfl) ?_ hS9 ?_
        rotate_left
        · (intro W hW; skip; go_simp; with_reducible rfl)
        refine held_norm (a' := ?_) ?_ ?_
        rotate_left
        · (go_simp; with_reducible rfl)
        refine held_take 47 (v := ?_) rfl (by kernel_rfl) (by kernel_rfl) (by kernel_rfl) (fun _ _ _ h => h) (by rfl) ?_ hS9 ?_
        rotate_left
        · (intro W hW; obtain ⟨hb, c0', c1', c2', c3'⟩ := HFs.out _ (HS0.out.trans hW); go_simp; with_reducible rfl)
        refine held_take 48 (v := ?_) rfl (by kernel_rfl) (by kernel_rfl) (by kernel_rfl) (fun _ _ _ h => h) (by rfl) ?_ hS9 ?_
        rotate_left
        · (intro W hW; obtain ⟨hb, c0', c1', c2', c3'⟩ := HFs.out _ (HS0.out.trans hW); go_simp; with_reducible rfl)
        refine held_norm (a' := ?_) ?_ ?_
        rotate_left
        · (go_simp; with_reducible rfl)
        refine held_take 49 (v := ?_) rfl (by kernel_rfl) (by kernel_rfl) (by kernel_rfl) (fun _ _ _ h => h) (by rfl) ?_ hS9 ?_
        rotate_left
        · (intro W hW; skip; go_simp; with_reducible rfl)
        refine held_take 50 (v := ?_) rfl (by kernel_rfl) (by kernel_rfl) (by kernel_rfl) (fun _ _ _ h => h) (by rfl) ?_ hS9 ?_
        rotate_left
        · (intro W hW; skip; go_simp; with_reducible rfl)
        refine held_norm (a' := ?_) ?_ ?_
        rotate_left
        · (go_simp; with_reducible rfl)
        refine held_take 51 (v := ?_) rfl (by kernel_rfl) (by kernel_rfl) (by kernel_rfl) (fun _ _ _ h => h) (by rfl) ?_ hS9 ?_
        rotate_left
        · (intro W hW; skip; go_simp; with_reducible rfl)
        refine held_take 52 (v := ?_) rfl (by kernel_rfl) (by kernel_rfl) (by kernel_rfl) (fun _ _ _ h => h) (by rfl) ?_ hS9 ?_
        rotate_left
        · (intro W hW; skip; go_simp; with_reducible rfl)
        refine held_norm (a' := ?_) ?_ ?_
        rotate_left
        · (go_simp; with_reducible rfl)
        refine held_take 53 (v := ?_) rfl (by kernel_rfl) (by kernel_rfl) (by kernel_rfl) (fun _ _ _ h => h) (by rfl) ?_ hS9 ?_
        rotate_left
        · (intro W hW; skip; go_simp; with_reducible rfl)
        refine held_take 54 (v := ?_) rfl (by kernel_rfl) (by kernel_rfl) (by kernel_rfl) (fun _ _ _ h => h) (by rfl) ?_ hS9 ?_
        rotate_left
        · (intro W hW; skip; go_simp; with_reducible rfl)
        refine held_take 55 (v := ?_) rfl (by kernel_rfl) (by kernel_rfl) (by kernel_rfl) (fun _ _ _ h => h) (by rfl) ?_ hS9 ?_
        rotate_left
        · (intro W hW; skip; go_simp; with_reducible rfl)
        refine held_norm (a' := ?_) ?_ ?_
        rotate_left
        · (go_simp; with_reducible rfl)
        refine held_take 56 (v := ?_) rfl (by kernel_rfl) (by kernel_rfl) (by kernel_rfl) (fun _ _ _ h => h) (by rfl) ?_ hS9 ?_
        rotate_left
        · (intro W hW; obtain ⟨hb, c0', c1', c2', c3'⟩ := HFs.out _ (HS0.out.trans hW); go_simp; with_reducible rfl)
        refine held_take 57 (v := ?_) rfl (by kernel_rfl) (by kernel_rfl) (by kernel_rfl) (fun _ _ _ h => h) (by rfl) ?_ hS9 ?_
        rotate_left
        · (intro W hW; obtain ⟨hb, c0', c1', c2', c3'⟩ := HFs.out _ (HS0.out.trans hW); go_simp; with_reducible rfl)
        refine held_norm (a' := ?_) ?_ ?_
        rotate_left
        · (go_simp; with_reducible rfl)
        refine held_take 58 (v := ?_) rfl (by kernel_rfl) (by kernel_rfl) (by kernel_rfl) (fun _ _ _ h => h) (by rfl) ?_ hS9 ?_
        rotate_left
        · (intro W hW; skip; go_simp; with_reducible rfl)
        refine held_take 59 (v := ?_) rfl (by kernel_rfl) (by kernel_rfl) (by kernel_rfl) (fun _ _ _ h => h) (by rfl) ?_ hS9 ?_
        rotate_left
        · (intro W hW; skip; go_simp; with_reducible rfl)
        refine held_take 60 (v := ?_) rfl (by kernel_rfl) (by kernel_rfl) (by kernel_rfl) (fun _ _ _ h => h) (by rfl) ?_ hS9 ?_
        rotate_left
        · (intro W hW; skip; go_simp; with_reducible rfl)
        refine held_take 61 (v := ?_) rfl (by kernel_rfl) (by kernel_rfl) (by kernel_rfl) (fun _ _ _ h => h) (by rfl) ?_ hS9 ?_
        rotate_left
        · (intro W hW; skip; go_simp; with_reducible rfl)
        refine held_norm (a' := ?_) ?_ ?_
        rotate_left
        · (go_simp; with_reducible rfl)
        refine held_take 62 (v := ?_) rfl (by kernel_rfl) (by kernel_rfl) (by kernel_rfl) (fun _ _ _ h => h) (by rfl) ?_ hS9 ?_
        rotate_left
        · (intro W hW; obtain ⟨hb, c0', c1', c2', c3'⟩ := HFs.out _ (HS0.out.trans hW); go_simp; with_reducible rfl)
        refine held_take 63 (v := ?_) rfl (by kernel_rfl) (by kernel_rfl) (by kernel_rfl) (fun _ _ _ h => h) (by rfl) ?_ hS9 ?_
        rotate_left
        · (intro W hW; obtain ⟨hb, c0', c1', c2', c3'⟩ := HFs.out _ (HS0.out.trans hW); go_simp; with_reducible rfl)
        refine held_norm (a' := ?_) ?_ ?_
        rotate_left
        · (go_simp; with_reducible rfl)
        refine held_take 64 (v := ?_) rfl (by kernel_rfl) (by kernel_rfl) (by kernel_rfl) (fun _ _ _ h => h) (by rfl) ?_ hS9 ?_
        rotate_left
        · (intro W hW; skip; go_simp; with_reducible rfl)
        refine held_take 65 (v := ?_) rfl (by kernel_rfl) (by kernel_rfl) (by kernel_rfl) (fun _ _ _ h => h) (by rfl) ?_ hS9 ?_
        rotate_left
        · (intro W hW; skip; go_simp; with_reducible rfl)
        refine held_norm (a' := ?_) ?_ ?_
        rotate_left
        · (go_simp; with_reducible rfl)
        refine held_take 66 (v := ?_) rfl (by kernel_rfl) (by kernel_rfl) (by kernel_rfl) (fun _ _ _ h => h) (by rfl) ?_ hS9 ?_
        rotate_left
        · (intro W hW; skip; go_simp; with_reducible rfl)
        refine held_norm (a' := ?_) ?_ ?_
        rotate_left
        · (go_simp; with_reducible rfl)
        refine held_done (by kernel_rfl) ?_
        have HS9 := Lib.hid (HS0.out.trans hS9)
        clear hS9 hg9 hS8 hg8 hS1
        obtain ⟨hbF, hj⟩ := HJ.out _ HS9.out
        obtain ⟨ql, q0, q1, q2, q3, q4, q5, q6, q7, q8, q9, q10, q11⟩ := qy_in (HBqr.out.grew HS9.out)
        obtain ⟨xl, x0, x1, x2, x3, x4, x5⟩ := nm_in (HBnr.out.grew HS9.out)
        rcases hsc with hsc | hsc
        · have t8 : decide ((nx.scan.length : Int) ≤ (f : Int)) = false := decide_eq_false (by omega)
          have t8n : decide (nx.scan.length ≤ f) = false := decide_eq_false (by omega)
          clear hsc
          have hqb : q ≤ 1001000 := by have := HLl.out; have := HLq.out; omega
          go_wp2_with fail
          exact ⟨⟨q + 1, by have := HLq.out; omega, by go_num, HG.out.trans HS9.out⟩, by simp only [intOf]; have := HLq.out; omega⟩
        · have t8 : decide ((nx.scan.length : Int) ≤ (f : Int)) = true := decide_eq_true (by omega)
          have t8n : decide (nx.scan.length ≤ f) = true := decide_eq_true hsc
          have t8m := hsc
          have h2 := HJf.out hsc
          have t9 : (jf == 2) = false := by rw [beq_eq_false_iff_ne]; exact h2.1
          have t10 : (jf == 4) = false := by rw [beq_eq_false_iff_ne]; exact h2.2
          have t11 : (nx.scan.length : Int) ≤ (f : Int) := by omega
          clear hsc h2
          have hqb : q ≤ 1001000 := by have := HLl.out; have := HLq.out; omega
          go_wp2_with fail
          exact ⟨⟨q + 1, by have := HLq.out; omega, by go_num, HG.out.trans HS9.out⟩, by simp only [intOf]; have := HLq.out; omega⟩
      · obtain rfl : q = ll := by omega
        go_wp2_with (go_at_call 7; (with_reducible refine (HLv.out _).grows.mono ?_); rintro e9 w9 ⟨rfl, hg9⟩; have HG9 := Lib.hid hg9; clear hg9)
        go_ret
        exact ⟨rfl, ((HG2.out.trans HG5.out).trans HG.out).trans HG9.out⟩
end Go.Proofs.Ytoaciliojdaoaaa

namespace Go.Proofs.Ytoaciliojdaoaaa.placeAlls
open Go.RowKit Go.ChangeShapes Go.WideShapes Go.ChangeAt Go.Joins

theorem reads : ∀ t ∈ Try.f3.params.toList, Try.prog.readableRec t = true ∧ t < Try.prog.types.size := by
  rw [Try.params3]
  intro t ht
  simp only [List.mem_cons, List.not_mem_nil, or_false] at ht
  rcases ht with rfl | rfl
  all_goals exact ⟨by kernel_rfl, of_decide_eq_true (by kernel_rfl)⟩

set_option maxRecDepth 100000 in
theorem lifted (os : Os) (started : os.Started) (H : Type) (enc : TypeId × Value → H) :
    ReturnsInHanded {} Try.checked os 3 .any (Rows.placeAllsSpec.pre6 enc Try.prog Try.f3 Rows.placeAllsRow.domain false) (Rows.placeAllsSpec.post enc Try.prog Try.f3 false true false false) := by
  refine returnsInHanded_of_change (C := Try.checked) own started (by kernel_rfl) Try.func3
    (ChangeSpec.witness6 (enc := enc) (C := Try.checked) false ⟨#[], #[.agg #[.slice none 0 0, .slice none 0 0, .int .i64 0, .string ByteArray.empty, .string ByteArray.empty, .int .i64 0, .int .i64 0, .int .i64 0, .int .i64 0, .string ByteArray.empty, .slice none 0 0, .slice none 0 0], .slice none 0 0], []⟩ 8 (by kernel_rfl) (by kernel_rfl) (by kernel_rfl) (by kernel_rfl)) ?_
  intro W base args ds gs before hval0 hW hcnd _
  have hval : ∀ (j : Nat) t v, Try.f3.params[j]? = some t → args[j]? = some v → Value.okWide Try.prog W .any base t v := hval0
  have hW' := hW
  obtain ⟨p, q, hA0, hV, hpq, hfz, hnd⟩ := hW
  have hA : DataW.TrodAll enc Try.prog W 0 (fun _ => true) true Try.f3.params.toList args.toList ds p := hA0
  rw [Try.params3] at hA hval
  obtain ⟨v0, vs0, d0, ds0, p0, q0, hargs, rfl, rfl, h0, r0⟩ := trodAll_cons hA
  obtain ⟨v1, vs1, d1, ds1, p1, q1, rfl, rfl, rfl, h1, r1⟩ := trodAll_cons r0
  obtain ⟨rfl, rfl, rfl⟩ := trodAll_nil r1
  obtain rfl : args = #[v0, v1] := by cases args; simp_all
  obtain ⟨rfl, rfl⟩ := trodVars_none hV
  obtain ⟨qcs, q, rfl, zq, qA, qk, qB, qj, qC, qc, qD, qd, eq, rq1, rq2, rq3, rq4⟩ := rd_arg Try.underlying29 rd_query (hval 0 29 v0 rfl rfl) h0
  obtain rfl : qcs = qyC q.items q.src q.wh q.group qA qk qB qj qC qc qD qd := Array.ext' (by rw [eq]; rfl)
  have o1 := open_islice Try.underlying30 Try.underlying3 (by kernel_rfl) (hval 1 30 v1 rfl rfl) h1
  obtain ⟨oA, oc, ol, rfl, zo, ro, wo, so⟩ := o1
  refine (placeAlls_walk q.items q.src q.wh q.group qA qk qB qj qC qc qD qd ol oA oc W rq1 rq2 rq3 rq4 ro).mono fun e W' ⟨he, hg⟩ => ?_
  subst he
  exact ⟨_, rfl, law_post hW' rfl rfl Try.underlying4 rfl rfl rfl laid_out reads (Grew.below hg)⟩

theorem over : Rows.placeAllsRow.holds Try.pinned (OpenSpec.ofChange Rows.placeAllsSpec) :=
  OpenClaim.holds_of_wide 3 Try.f3 rfl rfl rfl rfl rfl rfl rfl ⟨rfl, rfl, rfl, rfl, rfl⟩ rfl rfl rfl rfl rfl (by kernel_rfl) Try.func3 (by kernel_rfl)
    (of_decide_eq_true (by kernel_rfl)) (by unfold Func.isWrapper; first | (rw [if_pos (by decide +kernel)]; kernel_rfl) | (rw [if_neg (by decide +kernel)]; exact ⟨rfl, rfl⟩))
    (fun os started H enc _ => lifted os started H enc)

theorem proved : Rows.PlaceAllsSaid := over

end Go.Proofs.Ytoaciliojdaoaaa.placeAlls
