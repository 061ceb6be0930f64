/- Layer 14: an aggregate of a list; the page's example. Condition: no more than a hundred thousand values. -/
import Derived.Test.YtddambfniaiogaaAgg3
namespace Go.Proofs.Ytddambfniaiogaa
open Go.RowKit
attribute [local go_sem] more_cell more_frozen more_more more_setCell more_of_drew more_of_drewN lt_more le_more past_cell past_cell2 past_frozen past_frozen2 past_setCell past_setCell2 mid_cell mid_frozen mid_setCell
attribute [local go_sem ↓] Go.wp_at_zero Go.wp_at_succ

def accC (a : AccS) : Array Value := #[.int .i64 a.op, .int .i64 a.rows, .int .i64 a.whole, .bool a.wrong, .int .u64 (H a.z), .int .u64 (L a.z), .int .i64 a.zn, .int .i64 a.best.k, .int .i64 a.best.i, .string a.best.s]
theorem accL_take {op : Int} {l : List Vl} {j : Nat} (h : j < l.length) : accL op (l.take (j + 1)) = feedS (accL op (l.take j)) l[j] := by
  rw [List.take_succ_eq_append_getElem h, accL_snoc]
theorem accL_isW (op : Int) (l : List Vl) (hl : l.length ≤ 100000) (hv : ∀ v ∈ l, VlOk v) : isW (accL op l).z := by
  rw [accL_def]
  have h := sum_bound (numL (someL l)) (numL_ok (someL_ok hv)) (numL (someL l)).length
  rw [List.take_length] at h
  have h2 : (numL (someL l)).length ≤ 100000 := Nat.le_trans (numL_le _) (Nat.le_trans (someL_le l) hl)
  show isW (sumL (numL (someL l)))
  unfold isW
  omega
def OfAt (w : World) (op : Int) (l : List Vl) (g gr : Nat) (i : Value) (wr : World) : Prop :=
  ∃ j : Nat, j ≤ l.length ∧ i = .int .i64 j ∧ Grew w wr ∧ Blok wr g 58 (accC (accL op (l.take j))) ∧ Blok wr gr 23 #[.int .i64 0, .int .i64 0, .string ⟨#[]⟩]
set_option maxHeartbeats 4000000 in
set_option maxRecDepth 100000 in
theorem of_any14 (op : Int) (l : List Vl) (hl : l.length ≤ 100000) (hv : ∀ v ∈ l, VlOk v) (A : Option Addr) (k : Nat) (w : World) (ra : VlsR (PRow w) A l) :
    Gives Try.prog 32 #[.int .i64 op, .slice A l.length k] w (.tuple #[vlV (resS (accL op l)).1, .int .i64 (resS (accL op l)).2]) := by
  have HR : Hid (∀ W, Gives Try.prog 37 #[accV (accL op l)] W (.tuple #[vlV (resS (accL op l)).1, .int .i64 (resS (accL op l)).2])) := Lib.hid fun W => result_any _ (accL_isW op l hl hv) W
  have HS : Hid (∀ W, Gives Try.prog 35 #[.int .i64 op] W (accV (startS op))) := Lib.hid fun W => start_any op W
  have HF : Hid (∀ j (h : j < l.length) W, Gives Try.prog 36 #[accV (accL op (l.take j)), vlV l[j]] W (accV (accL op (l.take (j + 1))))) := Lib.hid fun j h W => by
    rw [accL_take h]
    have hb := accL_bounds op (l.take j)
    have hlt : (l.take j).length ≤ l.length := by rw [List.length_take]; omega
    exact feed_any _ _ (by omega) (by omega) (by omega) (isI_of_wf (hv _ (List.getElem_mem h)).2.1) W
  have RA := Lib.hid ra
  obtain ⟨⟨⟨rk, ri, rs⟩, re⟩, hr⟩ : ∃ r, resS (accL op l) = r := ⟨_, rfl⟩
  rw [hr] at HR ⊢
  clear hr ra hv
  unfold Gives
  go_enter Try.func32, Try.ntmps32
  go_wp2_with fail
  refine (HS.out _).grows.mono ?_
  rintro e w1 ⟨rfl, hg1⟩
  have HG1 : Hid (Grew w w1) := Lib.hid (((Grew.refl w).alloc _).trans hg1)
  have HB1 : Hid (Blok w1 w.heap.size 23 #[.int .i64 0, .int .i64 0, .string ⟨#[]⟩]) := Lib.hid ((Blok.new _ _ _ _ rfl).grew hg1)
  have HA0 : accV (startS op) = .agg (accC (accL op (l.take 0))) := rfl
  rw [HA0]
  clear hg1 HS HA0
  generalize hgr : w.heap.size = gr at *
  have HGR := Lib.hid hgr
  clear hgr
  obtain ⟨W2, hW2⟩ : ∃ W2, W2 = w1.alloc (.cells (accC (accL op (l.take 0))) 58) := ⟨_, rfl⟩
  have HB2 : Hid (Blok W2 w1.heap.size 58 (accC (accL op (l.take 0)))) := Lib.hid (by rw [hW2]; exact Blok.new _ _ _ _ rfl)
  have HR2 : Hid (Blok W2 gr 23 #[.int .i64 0, .int .i64 0, .string ⟨#[]⟩]) := Lib.hid (by rw [hW2]; exact HB1.out.alloc _)
  have HG2 : Hid (Grew w W2) := Lib.hid (by rw [hW2]; exact HG1.out.alloc _)
  have HLE : Hid (w.heap.size ≤ w1.heap.size) := Lib.hid HG1.out.size
  have HNE : Hid (gr ≠ w1.heap.size) := Lib.hid (by have := HB1.out.lt; omega)
  obtain ⟨a0, ha0⟩ : ∃ a0, accL op (l.take 0) = a0 := ⟨_, rfl⟩
  rw [ha0] at hW2 HB2 ⊢
  have HA0 := Lib.hid ha0
  clear ha0
  unfold accC at hW2 ⊢
  go_upto_region 2 with fail
  rw [← hW2]
  clear hW2 HB1 HG1
  generalize w1.heap.size = g at *
  go_wp2
  go_loopw [13] (fun i wr => OfAt w op l g gr i wr) (fun i _ => l.length - (intOf i).toNat)
  case atStart => exact ⟨0, Nat.zero_le _, rfl, HG2.out, by rw [HA0.out]; exact HB2.out, HR2.out⟩
  case round =>
    obtain ⟨j, hj, rfl, hg, hb, hbr⟩ := hrel
    have HG := Lib.hid hg
    have HB := Lib.hid hb
    have HBR := Lib.hid hbr
    clear hg hb hbr HG2 HB2 HR2
    by_cases h : j < l.length
    · obtain ⟨b, o, rfl, hlb, q0, q1, q2⟩ := vlsR_at (RA.out.grew HG.out) h
      have HFj := Lib.hid (HF.out j h)
      clear HF
      obtain ⟨a', ha'⟩ : ∃ a', accL op (l.take (j + 1)) = a' := ⟨_, rfl⟩
      rw [ha'] at HFj
      have HA' := Lib.hid ha'
      clear ha'
      generalize accL op (l.take j) = a at *
      generalize l[j] = v at *
      unfold accV vlV at HFj
      unfold accC at *
      obtain ⟨la, a0, a1, a2, a3, a4, a5, a6, a7, a8, a9⟩ := acc_in HB.out
      go_wp2_with fail
      refine (HFj.out _).grows.mono ?_
      rintro e w3 ⟨rfl, hg3⟩
      have HG3 := Lib.hid ((HG.out.alloc _).trans hg3)
      have HB3 := Lib.hid ((HB.out.alloc _).grew hg3)
      have HBR3 := Lib.hid ((HBR.out.alloc _).grew hg3)
      clear hg3 HFj la a0 a1 a2 a3 a4 a5 a6 a7 a8 a9
      obtain ⟨la, a0, a1, a2, a3, a4, a5, a6, a7, a8, a9⟩ := acc_in HB3.out
      obtain ⟨b0, b1, b2, b3, b4, b5, b6, b7, b8, b9⟩ := acc_th HB3.out
      go_wp2
      refine ⟨⟨j + 1, by omega, by go_num, ?_, by rw [HA'.out]; exact acc_set HB3.out _ _ _ _ _ _ _ _ _ _, ?_⟩, by simp only [intOf]; omega⟩
      · exact grew_set10 HG3.out HLE.out _ _ _ _ _ _ _ _ _ _
      · iterate 10 refine Blok.far ?_ (by exact HNE.out) _
        exact HBR3.out
    · obtain rfl : j = l.length := by omega
      rw [List.take_length] at HB
      clear HF
      generalize accL op l = a at *
      unfold accV vlV at HR
      simp only at HR
      unfold accC at *
      obtain ⟨la, a0, a1, a2, a3, a4, a5, a6, a7, a8, a9⟩ := acc_in HB.out
      go_wp2_with fail
      refine (HR.out _).grows.mono ?_
      rintro e w3 ⟨rfl, hg3⟩
      have HG3 := Lib.hid (HG.out.trans hg3)
      have HBR3 := Lib.hid (HBR.out.grew hg3)
      clear hg3 HR la a0 a1 a2 a3 a4 a5 a6 a7 a8 a9
      obtain ⟨p1, c0, c1, c2, d0, d1, d2⟩ := val_in HBR3.out
      go_wp2
      have hb := val_set HBR3.out (.int .i64 rk) (.int .i64 ri) (.string rs)
      obtain ⟨_, r0, r1, r2, _, _, _⟩ := val_in hb
      exact bodyPost_ret (v := .tuple #[.agg #[.int .i64 rk, .int .i64 ri, .string rs], .int .i64 re]) (by simp [results, Try.results32, go_sem, r0, r1, r2]) rfl ⟨rfl, grew_set3 HG3.out (by rw [HGR.out]; exact Nat.le_refl _) _ _ _⟩
theorem live14_one : resS (accL 18 [⟨1, 1, ⟨#[]⟩⟩, ⟨0, 0, ⟨#[]⟩⟩]) = (⟨1, 1, ⟨#[]⟩⟩, 0) := rfl
theorem live14_two : resS (accL 5 []) = (zV, 3) := rfl
theorem live14_vals {W : World} {g : Nat} (h : Row W (some ⟨g, 0, none⟩) [.int .i64 1, .int .i64 1, .string ⟨#[]⟩, .int .i64 0, .int .i64 0, .string ⟨#[]⟩]) : VlsR (PRow W) (some ⟨g, 0, none⟩) [⟨1, 1, ⟨#[]⟩⟩, ⟨0, 0, ⟨#[]⟩⟩] :=
  ⟨[[.int .i64 1, .int .i64 1, .string ⟨#[]⟩], [.int .i64 0, .int .i64 0, .string ⟨#[]⟩]], (ListR.nil.snoc (x := (⟨1, 1, ⟨#[]⟩⟩ : Vl)) rfl rfl).snoc (x := (⟨0, 0, ⟨#[]⟩⟩ : Vl)) rfl rfl, h⟩
theorem empty_small : (⟨#[]⟩ : ByteArray).size ≤ 140737488355328 := by show (0 : Nat) ≤ _; omega
set_option maxHeartbeats 4000000 in
set_option maxRecDepth 100000 in
theorem live14_any (w : World) : Gives Try.prog 31 #[] w (.bool true) := by
  have H1 : Hid (∀ W g, Row W (some ⟨g, 0, none⟩) [.int .i64 1, .int .i64 1, .string ⟨#[]⟩, .int .i64 0, .int .i64 0, .string ⟨#[]⟩] → Gives Try.prog 32 #[.int .i64 18, .slice (some ⟨g, 0, none⟩) 2 2] W (.tuple #[.agg #[.int .i64 1, .int .i64 1, .string ⟨#[]⟩], .int .i64 0])) := Lib.hid fun W g h => by
    have := of_any14 18 [⟨1, 1, ⟨#[]⟩⟩, ⟨0, 0, ⟨#[]⟩⟩] (by simp) (by
      intro v hv
      simp only [List.mem_cons, List.not_mem_nil, or_false] at hv
      rcases hv with rfl | rfl
      · exact ⟨by decide, by decide, empty_small⟩
      · exact ⟨by decide, by decide, empty_small⟩) (some ⟨g, 0, none⟩) 2 W (live14_vals h)
    rw [live14_one] at this
    exact this
  have H2 : Hid (∀ W, Gives Try.prog 32 #[.int .i64 5, .slice none 0 0] W (.tuple #[.agg #[.int .i64 0, .int .i64 0, .string ⟨#[]⟩], .int .i64 3])) := Lib.hid fun W => by
    have := of_any14 5 [] (by simp) (by intro v hv; cases hv) none 0 W ⟨[], ListR.nil, Or.inl rfl⟩
    rw [live14_two] at this
    exact this
  unfold Gives
  go_enter Try.func31, Try.ntmps31
  go_wp2_with fail
  refine (H1.out _ _ (row_new w _ _ _ rfl)).grows.mono ?_
  rintro e w1 ⟨rfl, hg1⟩
  have HG1 : Hid (Grew w w1) := Lib.hid (((Grew.refl w).alloc _).trans hg1)
  clear hg1 H1
  go_wp2_with fail
  refine (H2.out _).grows.mono ?_
  rintro e w2 ⟨rfl, hg2⟩
  have HG2 := Lib.hid ((HG1.out.alloc _).trans hg2)
  have HB2 : Hid (Blok w2 w1.heap.size 23 #[.int .i64 1, .int .i64 1, .string ⟨#[]⟩]) := Lib.hid ((Blok.new _ _ _ _ rfl).grew hg2)
  clear hg2 H2
  generalize w1.heap.size = g1 at *
  obtain ⟨p1, c0, c1, c2, d0, d1, d2⟩ := val_in HB2.out
  go_wp2_with (first
    | (go_at_call_of 34 (Value.int .i64 0); (with_reducible refine (code14_any _ _).grows.mono ?_); rintro e w3 ⟨rfl, hg3⟩; have HG3 := Lib.hid ((HG2.out.alloc _).trans hg3); clear hg3)
    | (go_at_call_of 34 (Value.int .i64 3); (with_reducible refine (code14_any _ _).grows.mono ?_); rintro e w4 ⟨rfl, hg4⟩; have HG4 := Lib.hid (HG3.out.trans hg4); clear hg4))
  go_ret
  exact ⟨rfl, HG4.out⟩
end Go.Proofs.Ytddambfniaiogaa
