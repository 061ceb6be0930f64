/- Layer 18: numbers put into a filter; filters of other shapes; the page's example. Condition: as many words and bits as there may be. -/
import Derived.Test.YtpcbnmpfiepaeaaDoorBloom3
import Derived.Deep.DeepCutAuto
namespace Go.Proofs.YtpcbnmpfiepaeaaDoor
open Go.RowKit
attribute [local go_sem] more_cell more_frozen more_more more_setCell more_of_drew more_of_drewN lt_more le_more past_cell past_cell2 past_frozen past_frozen2 past_setCell past_setCell2 mid_cell mid_frozen mid_setCell
attribute [local go_sem ↓] Go.wp_at_zero Go.wp_at_succ

/-- While numbers are put: the words of one's own, the filter that points to them, what is to be returned. -/
def BAddAt (w : World) (T : TypeId) (g c n : Nat) (ws : List Nat) (k : Nat) (l : List Nat) (i : Value) (wr : World) : Prop :=
  ∃ j : Nat, j ≤ l.length ∧ i = .int .i64 j ∧ wr.ownsRow (w.heap.size + 2) 51 1 (.slice (some ⟨g, 0, none⟩) n c) n (uV (addW ws k (l.take j))) ∧
    Blok wr w.heap.size T #[.slice (some ⟨g, 0, none⟩) n c, .int .i64 k] ∧ Blok wr (w.heap.size + 1) T #[.slice none 0 0, .int .i64 0] ∧ Grew w wr
theorem own_far {w : World} {base : Nat} {e : TypeId} {n : Nat} {v : Value} {xs : List Value} (h : w.ownsRow base e 1 v n xs) {p : Addr} (hp : p.block < base) (u : Value) : (w.setCell p u).ownsRow base e 1 v n xs := ownsRow_setCell_below h hp u
set_option maxHeartbeats 4000000 in
set_option maxRecDepth 100000 in
theorem badd_any (ws : List Nat) (k n g c : Nat) (hn : ws.length = n) (h0 : 0 < n) (hl : n ≤ 1000000) (hk : k ≤ 5) (hw : wordsOk ws) (l : List Nat) (A : Option Addr) (d : Nat) (hll : l.length ≤ 1000000) (hlo : wordsOk l) (w : World) (hr : URow w (some ⟨g, 0, none⟩) ws) (hrl : URow w A l) :
    Calls Tryd.prog 21 #[.agg #[.slice (some ⟨g, 0, none⟩) n c, .int .i64 k], .slice A l.length d] w (Filt w (addW ws k l) k) := by
  subst hn
  have HR := Lib.hid hr
  have HRL := Lib.hid hrl
  have HW := Lib.hid hw
  have HLO := Lib.hid hlo
  have hne : ((ws.length : Int) == 0) = false := by rw [beq_eq_false_iff_ne]; omega
  clear hr hrl hw hlo
  go_enter Tryd.func21, Tryd.ntmps21
  go_wp2_with fail
  refine (uclone_any ws g 0 _ c rfl h0 hl _ (by exact HR.out.grew (by (show Grew _ _; repeat (first | exact Grew.refl _ | refine Grew.alloc ?_ _ | refine Grew.drew ?_ | refine Grew.more ?_ _))))).mono ?_
  rintro e w1 ⟨g2, c2, rfl, ho, hg⟩
  have b0 : Blok w1 w.heap.size 28 #[.slice (some ⟨g, 0, none⟩) ws.length c, .int .i64 k] := ((Blok.new w _ _ _ rfl).alloc _).grew hg
  have b1 : Blok w1 (w.heap.size + 1) 28 #[.slice none 0 0, .int .i64 0] := (Blok.new _ _ _ _ (by simp)).grew hg
  have hg2 : w.heap.size + 2 ≤ g2 := by have := own_base ho g2 rfl; simpa using this
  have ho2 : w1.ownsRow (w.heap.size + 2) 51 1 (.slice (some ⟨g2, 0, none⟩) ws.length c2) ws.length (uV ws) := own_le ho (by simp)
  have hgw : Grew w w1 := Grew.trans (by (show Grew _ _; repeat (first | exact Grew.refl _ | refine Grew.alloc ?_ _ | refine Grew.drew ?_ | refine Grew.more ?_ _))) hg
  have c00 : w1.cell? ⟨w.heap.size, 0, none⟩ = some (.slice (some ⟨g, 0, none⟩) ws.length c) := b0.cell 0
  have z00 := b0.thaw 0
  have hb1 := b1.lt
  have hb0 := b0.lt
  have B0 := Lib.hid (b0.set 0 (.slice (some ⟨g2, 0, none⟩) ws.length c2))
  have B1 := Lib.hid (b1.far (p := ⟨w.heap.size, 0, none⟩) (by show w.heap.size + 1 ≠ w.heap.size; omega) (.slice (some ⟨g2, 0, none⟩) ws.length c2))
  have HO := Lib.hid (own_far ho2 (p := ⟨w.heap.size, 0, none⟩) (by show w.heap.size < w.heap.size + 2; omega) (.slice (some ⟨g2, 0, none⟩) ws.length c2))
  have HG := Lib.hid (hgw.setCell (a := ⟨w.heap.size, 0, none⟩) (Nat.le_refl _) (.slice (some ⟨g2, 0, none⟩) ws.length c2))
  have c01 : (w1.setCell ⟨w.heap.size, 0, none⟩ (.slice (some ⟨g2, 0, none⟩) ws.length c2)).cell? ⟨w.heap.size, 0, none⟩ = some (.slice (some ⟨g2, 0, none⟩) ws.length c2) := B0.out.cell 0
  clear ho hg b0 b1 ho2 hgw
  go_wp2_with fail
  go_loopw [18] (fun i wr => BAddAt w 28 g2 c2 ws.length ws k l i wr) (fun i _ => l.length - (intOf i).toNat)
  case atStart => exact ⟨0, Nat.zero_le _, rfl, HO.out, B0.out, B1.out, HG.out⟩
  case round =>
    obtain ⟨j, hj, rfl, ho, b0, b1, hg⟩ := hrel
    clear c00 z00 c01 hb1 hb0 B0 B1 HO HG HR
    have hb0 := b0.lt
    have hb1 := b1.lt
    have c00 : wr.cell? ⟨w.heap.size, 0, none⟩ = some (.slice (some ⟨g2, 0, none⟩) ws.length c2) := b0.cell 0
    have c01 : wr.cell? ⟨w.heap.size, 1, none⟩ = some (.int .i64 k) := b0.cell 1
    by_cases h : j < l.length
    · have hlen : (addW ws k (l.take j)).length = ws.length := addW_len ws k _
      have hok := addW_ok k (l.take j) HW.out
      have HT := Lib.hid (addW_take ws k l j h)
      have hh := HLO.out l[j] (List.getElem_mem h)
      obtain ⟨b, o, rfl⟩ : ∃ b o, A = some ⟨b, o, none⟩ := by
        rcases HRL.out with h1 | ⟨b, o, hA, _⟩
        · rw [List.map_eq_nil_iff] at h1
          subst h1
          simp at h
        · exact ⟨b, o, hA⟩
      obtain ⟨hbl, d0⟩ := urow_cell (HRL.out.grew hg) h rfl
      generalize l[j] = x at *
      generalize addW ws k (l.take j) = cur at *
      have hbk : buckN x ws.length < ws.length := Nat.mod_lt _ h0
      have hgd : cur.getD (buckN x ws.length) 0 = cur[buckN x ws.length]'(by omega) := by rw [List.getD_eq_getElem?_getD, List.getElem?_eq_getElem (by omega)]; rfl
      have hy := hok _ (List.getElem_mem (show buckN x ws.length < cur.length by omega))
      have hadd : addN cur k x = cur.set (buckN x ws.length) (cur[buckN x ws.length]'(by omega) ||| maskN x k) := by unfold addN; simp only [hlen, hgd]
      have e0 := ho.cellAt (buckN x ws.length) (by omega)
      have e1 : (uV cur)[buckN x ws.length]? = some (.int .u64 ((cur[buckN x ws.length]'(by omega) : Nat) : Int)) := by unfold uV; rw [List.getElem?_map, List.getElem?_eq_getElem (by omega)]; rfl
      rw [e1] at e0
      have z0 := ho.frozenAt (buckN x ws.length)
      have hgl := (World.ownsRow.lt ho g2 rfl).2
      have HM : Hid (∀ W, Gives Tryd.prog 39 #[.int .u64 x, .int .i64 k] W (.int .u64 (maskN x k : Nat))) := Lib.hid fun W => Gives.of_same (mask_any x k hh hk W)
      have HB : Hid (∀ W, Gives Tryd.prog 38 #[.int .u64 x, .int .i64 ws.length] W (.int .i64 (buckN x ws.length : Nat))) := Lib.hid fun W => Gives.of_same (bucket_nat x ws.length _ hh h0 hl rfl W)
      have hm := maskN_lt x k
      generalize hyy : cur[buckN x ws.length]'(by omega) = y at *
      have eor : bits .or .u64 (y : Int) (maskN x k : Nat) = ((y ||| maskN x k : Nat) : Int) := u64_or_nat y _ hy hm
      generalize maskN x k = m at *
      generalize y ||| m = v at *
      have hs := ho.stored (buckN x ws.length) (.int .u64 (v : Int))
      have hs2 : (wr.setCell ⟨g2, buckN x ws.length, none⟩ (.int .u64 (v : Int))).ownsRow (w.heap.size + 2) 51 1 (.slice (some ⟨g2, 0, none⟩) ws.length c2) ws.length (uV (addN cur k x)) := by
        rw [hadd, ← uV_set]
        exact hs.1
      have HO := Lib.hid hs2
      have HB0 := Lib.hid (b0.far (p := ⟨g2, buckN x ws.length, none⟩) (by show w.heap.size ≠ g2; omega) (.int .u64 (v : Int)))
      have HB1 := Lib.hid (b1.far (p := ⟨g2, buckN x ws.length, none⟩) (by show w.heap.size + 1 ≠ g2; omega) (.int .u64 (v : Int)))
      have HG := Lib.hid (hg.setCell (a := ⟨g2, buckN x ws.length, none⟩) (by show w.heap.size ≤ g2; omega) (.int .u64 (v : Int)))
      clear hs hs2 hadd hgd hyy e1 hok ho b0 b1 hg hy hm
      have hbi : ((buckN x ws.length : Nat) : Int) < ws.length := by omega
      generalize buckN x ws.length = bb at *
      go_wp2
      refine wp_region_more_tail 15 (by kernel_rfl) (by kernel_rfl) ?_
      simp only [List.take_succ_cons, List.take_zero, List.drop_succ_cons, List.drop_zero]
      repeat (go_big_quiet_step ((first | (go_at_call 38; exact (HB.out _).within) | (go_at_call 39; exact (HM.out _).within))))
      refine wpQuiet_nil ?_
      rintro _ ⟨z, rfl⟩
      go_wp2
      refine ⟨⟨j + 1, by omega, by go_num, by rw [HT.out]; exact own_more HO.out _, HB0.out.more _, HB1.out.more _, HG.out.more _⟩, by simp only [intOf]; omega⟩
    · obtain rfl : j = l.length := by omega
      rw [List.take_length] at ho
      have HO := Lib.hid ho
      have HG := Lib.hid hg
      have c10 : wr.cell? ⟨w.heap.size + 1, 0, none⟩ = some (.slice none 0 0) := b1.cell 0
      have c11 : wr.cell? ⟨w.heap.size + 1, 1, none⟩ = some (.int .i64 0) := b1.cell 1
      have z10 := b1.thaw 0
      have z11 := b1.thaw 1
      have r0 : ((wr.setCell ⟨w.heap.size + 1, 0, none⟩ (.slice (some ⟨g2, 0, none⟩) ws.length c2)).setCell ⟨w.heap.size + 1, 1, none⟩ (.int .i64 k)).cell? ⟨w.heap.size + 1, 0, none⟩ = some (.slice (some ⟨g2, 0, none⟩) ws.length c2) := ((b1.set 0 (.slice (some ⟨g2, 0, none⟩) ws.length c2)).set 1 (.int .i64 k)).cell 0
      have r1 : ((wr.setCell ⟨w.heap.size + 1, 0, none⟩ (.slice (some ⟨g2, 0, none⟩) ws.length c2)).setCell ⟨w.heap.size + 1, 1, none⟩ (.int .i64 k)).cell? ⟨w.heap.size + 1, 1, none⟩ = some (.int .i64 k) := ((b1.set 0 (.slice (some ⟨g2, 0, none⟩) ws.length c2)).set 1 (.int .i64 k)).cell 1
      have HO2 := Lib.hid (own_far (own_far ho (p := ⟨w.heap.size + 1, 0, none⟩) (by show w.heap.size + 1 < w.heap.size + 2; omega) (.slice (some ⟨g2, 0, none⟩) ws.length c2)) (p := ⟨w.heap.size + 1, 1, none⟩) (by show w.heap.size + 1 < w.heap.size + 2; omega) (.int .i64 k))
      have HG2 := Lib.hid ((hg.setCell (a := ⟨w.heap.size + 1, 0, none⟩) (by show w.heap.size ≤ w.heap.size + 1; omega) (.slice (some ⟨g2, 0, none⟩) ws.length c2)).setCell (a := ⟨w.heap.size + 1, 1, none⟩) (by show w.heap.size ≤ w.heap.size + 1; omega) (.int .i64 k))
      clear ho hg b0 b1
      go_wp2
      exact bodyPost_ret (v := .agg #[.slice (some ⟨g2, 0, none⟩) ws.length c2, .int .i64 k]) (by simp [results, Tryd.results21, go_sem, r0, r1]) rfl ⟨g2, c2, by rw [addW_len], HG2.out, urow_own HO2.out⟩
theorem ok_rep (n : Nat) : wordsOk (List.replicate n 0) := by
  intro x hx
  rw [(List.mem_replicate.1 hx).2]
  decide
theorem urow_one (w : World) (e : TypeId) (b x : Nat) (hb : b = w.heap.size) : URow (w.alloc (.cells #[.int .u64 (x : Int)] e)) (some ⟨b, 0, none⟩) [x] := row_new w e b #[.int .u64 (x : Int)] hb
end Go.Proofs.YtpcbnmpfiepaeaaDoor
