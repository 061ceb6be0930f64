/- Layer 17: the law of values' and rows' numbers. Condition: rows that lie in memory that is there; the library's table of powers. -/
import Derived.Test.YtanljiokoehlaaaDoorRKey3
import Derived.Test.YtanljiokoehlaaaDoorRowMuch
import Derived.Test.YtanljiokoehlaaaDoorHeld
namespace Go.Proofs.YtanljiokoehlaaaDoor
open Go.RowKit
attribute [local go_sem] more_cell more_frozen more_more more_setCell more_of_drew more_of_drewN lt_more le_more past_cell past_cell2 past_frozen past_frozen2 past_setCell past_setCell2 mid_cell mid_frozen mid_setCell
attribute [local go_sem ↓] Go.wp_at_zero Go.wp_at_succ

theorem keyT_tight (k i : Int) (s : ByteArray) : (keyT k i s).size ≤ s.size + 9 := by
  unfold keyT
  by_cases h0 : k = 0
  · rw [if_pos h0]
    show 1 ≤ s.size + 9
    omega
  · rw [if_neg h0]
    by_cases h1 : k = 1
    · rw [if_pos h1, ByteArray.size_append]
      have : (⟨(keyBytes i).toArray⟩ : ByteArray).size = 8 := by simp [keyBytes, ByteArray.size]
      rw [this]
      show 1 + 8 ≤ s.size + 9
      omega
    · rw [if_neg h1]
      by_cases h2 : k = 2
      · rw [if_pos h2, ByteArray.size_append]
        have : (⟨#[116]⟩ : ByteArray).size = 1 := rfl
        omega
      · rw [if_neg h2]
        show 0 ≤ s.size + 9
        omega
theorem keyRowL_tight (l : List Vl) (h : ∀ v ∈ l, v.s.size ≤ 3000) : (keyRowL l).length ≤ szR l + 30 * l.length := by
  induction l with
  | nil => simp [keyRowL]
  | cons v l ih =>
    have h1 := ih fun x hx => h x (List.mem_cons_of_mem _ hx)
    have h2 := keyT_tight v.k v.i v.s
    have h4 := h v (List.mem_cons_self ..)
    have h3 := Lib.itoa_length_le ((keyT v.k v.i v.s).size : Nat) (by omega) (by omega)
    have h5 : (keyT v.k v.i v.s).data.toList.length = (keyT v.k v.i v.s).size := by rw [Array.length_toList]; rfl
    have e1 : keyRowL (v :: l) = keyV v ++ keyRowL l := by simp [keyRowL]
    have e2 : szR (v :: l) = (1 + v.s.size) + szR l := by simp [szR]
    have e3 : (keyV v).length ≤ v.s.size + 31 := by
      unfold keyV
      rw [List.length_append, List.length_cons, h5]
      omega
    rw [e1, e2, List.length_append, List.length_cons]
    omega
theorem szR_mem {l : List Vl} {v : Vl} (hv : v ∈ l) : v.s.size ≤ szR l := by
  induction l with
  | nil => cases hv
  | cons x l ih =>
    have e2 : szR (x :: l) = (1 + x.s.size) + szR l := by simp [szR]
    rcases List.mem_cons.1 hv with rfl | hv
    · omega
    · have := ih hv
      omega
theorem good_row {l : List Vl} (h : goodRws [l]) : l.length ≤ 40 ∧ (∀ v ∈ l, v.s.size ≤ 3000) ∧ (keyRowL l).length ≤ 100000 := by
  have h1 := h.2.1 l (by simp)
  have h2 : szR l ≤ 2000 := by
    have := h.2.2
    simpa [szRs] using this
  have h3 : ∀ v ∈ l, v.s.size ≤ 3000 := fun v hv => Nat.le_trans (szR_mem hv) (by omega)
  have h4 := keyRowL_tight l h3
  exact ⟨h1, h3, by omega⟩
theorem rws_one {w : World} {B A : Option Addr} {l : List Vl} {k : Nat} (h : Row w B [.slice A l.length k]) (hk : l.length ≤ k) (h2 : VlsR (PRow w) A l) : RwsR (PRow w) B [l] :=
  ⟨[[.slice A l.length k]], ⟨rfl, fun i x cs hi hd => by
    rcases i with _ | i
    · simp only [List.getElem?_cons_zero, Option.some.injEq] at hi hd
      subst hi hd
      exact ⟨⟨A, k, rfl, hk, h2⟩, rfl⟩
    · simp at hi⟩, by simpa [PRow] using h⟩
set_option maxHeartbeats 4000000 in
set_option maxRecDepth 100000 in
theorem hashVals_walk (n vk vi : Int) (vs : ByteArray) (l : List Vl) (A : Option Addr) (k : Nat) (w : World) (hl : RwOk l) (hk : l.length ≤ k) (ra : VlsR (PRow w) A l) (htab : Lib.TabIs Tryd.prog w "internal/strconv.uint64pow10" .u64 Lib.pow10Tab) :
    Gives Tryd.prog 3 #[.int .i64 n, .agg #[.int .i64 vk, .int .i64 vi, .string vs], .slice A l.length k] w (.bool true) := by
  obtain ⟨w0, hw0⟩ : ∃ w0, w.alloc (.cells #[.int .i64 vk, .int .i64 vi, .string vs] 23) = w0 := ⟨_, rfl⟩
  have HG0 : Hid (Grew w w0) := Lib.hid (by rw [← hw0]; exact (Grew.refl w).alloc _)
  have hs0 : w0.heap.size = w.heap.size + 1 := by rw [← hw0, World.size_alloc]
  have HBx : Hid (∀ W, Grew w0 W → W.cell? ⟨w.heap.size, 0, none⟩ = some (.int .i64 vk) ∧ W.cell? ⟨w.heap.size, 1, none⟩ = some (.int .i64 vi) ∧ W.cell? ⟨w.heap.size, 2, none⟩ = some (.string vs)) := Lib.hid fun W hW => by
    have hb : Row w0 (some ⟨w.heap.size, 0, none⟩) [.int .i64 vk, .int .i64 vi, .string vs] := by rw [← hw0]; exact row_new w _ _ _ rfl
    rcases hb.grew hW with h | ⟨b, o, e, _, hc⟩
    · cases h
    · injection e with e
      injection e with e1 e2
      subst e1 e2
      exact ⟨hc 0 _ rfl, hc 1 _ rfl, hc 2 _ rfl⟩
  have HM : Hid (Calls Tryd.prog 5 #[.slice (some ⟨w0.heap.size, 0, none⟩) 1 1] (w0.alloc (.cells #[.slice A l.length k] 24)) (MuchR (w0.alloc (.cells #[.slice A l.length k] 24)) (goodRws [l]))) := Lib.hid
    (much4_any [l] ⟨by simp, by intro r hr; simp only [List.mem_cons, List.not_mem_nil, or_false] at hr; rw [hr]; exact hl⟩ (some ⟨w0.heap.size, 0, none⟩) 1 _ (rws_one (row_new w0 _ _ _ rfl) hk (ra.grew (HG0.out.alloc _))))
  have HRA := Lib.hid ra
  have HTab := Lib.hid htab
  rw [hs0] at HM
  clear ra htab hl
  obtain ⟨b0, b1, b2⟩ := HBx.out w0 (Grew.refl w0)
  unfold Gives
  by_cases h3 : 300 < vs.size
  · have e3 : decide ((300 : Int) < (vs.size : Int)) = true := decide_eq_true (by omega)
    have h3' : (300 : Int) < (vs.size : Int) := by omega
    clear HM
    go_enter Tryd.func3, Tryd.ntmps3
    go_wp2_with (go_at_call 6; (with_reducible refine (live17_any _).grows.mono ?_); rintro e w5 ⟨rfl, hg5⟩; have HG5 := Lib.hid (show Grew w w5 from HG0.out.trans hg5); clear hg5)
    go_ret
    exact ⟨rfl, HG5.out⟩
  · have e3 : decide ((300 : Int) < (vs.size : Int)) = false := decide_eq_false (by omega)
    have h3' : (vs.size : Int) ≤ 300 := by omega
    go_enter Tryd.func3, Tryd.ntmps3
    go_wp2_with fail
    refine HM.out.mono ?_
    rintro e w1 ⟨t, rfl, hg1, h1⟩
    have HG1 := Lib.hid (show Grew w0 w1 from ((Grew.refl w0).alloc _).trans hg1)
    have HGood := Lib.hid h1
    clear hg1 h1 HM hw0
    cases t
    rotate_left
    · go_wp2_with (go_at_call 6; (with_reducible refine (live17_any _).grows.mono ?_); rintro e w5 ⟨rfl, hg5⟩; have HG5 := Lib.hid (show Grew w w5 from HG0.out.trans (HG1.out.trans hg5)); clear hg5)
      go_ret
      exact ⟨rfl, HG5.out⟩
    obtain ⟨g1, g2, g3⟩ := good_row (HGood.out rfl)
    have HOf := Lib.hid (fun W => of_any n vk vi vs (by omega) W)
    have HROf := Lib.hid (fun W => rof_any n vk vi vs (by omega) W)
    have HRow := Lib.hid (fun W (hW : Grew w W) => row17_any n l (by omega) g2 g3 A k W (HRA.out.grew hW) (tab_grew HTab.out hW))
    have HRRow := Lib.hid (fun W (hW : Grew w W) => rrow17_any n l (by omega) g2 g3 A k W (HRA.out.grew hW))
    clear g1 g2 g3 HGood HRA HTab
    generalize textI n (keyT vk vi vs) = T1 at *
    generalize textI n ⟨(keyRowL l).toArray⟩ = T2 at *
    have q1 : (T1 == T1) = true := by simp
    have q2 : (T2 == T2) = true := by simp
    clear b0 b1 b2
    go_wp2_with fail
    refine wp_region_grew (by kernel_rfl) ?_
    refine held_take 0 (v := ?_) rfl (by kernel_rfl) (by kernel_rfl) (by kernel_rfl) (fun _ _ _ h => h) (by rfl) ?_ (Grew.refl w1).drew ?_
    rotate_left
    · (intro W hW; obtain ⟨c0, c1, c2⟩ := HBx.out W (HG1.out.trans hW); go_simp; with_reducible rfl)
    refine held_take 1 (v := ?_) rfl (by kernel_rfl) (by kernel_rfl) (by kernel_rfl) (fun _ _ _ h => h) (by rfl) ?_ (Grew.refl w1).drew ?_
    rotate_left
    · (intro W hW; obtain ⟨c0, c1, c2⟩ := HBx.out W (HG1.out.trans hW); go_simp; with_reducible rfl)
    refine held_take 3 (v := ?_) rfl (by kernel_rfl) (by kernel_rfl) (by kernel_rfl) (fun _ _ _ h => h) (by rfl) ?_ (Grew.refl w1).drew ?_
    rotate_left
    · (intro W hW; obtain ⟨c0, c1, c2⟩ := HBx.out W (HG1.out.trans hW); go_simp; with_reducible rfl)
    refine held_take 4 (v := ?_) rfl (by kernel_rfl) (by kernel_rfl) (by kernel_rfl) (fun _ _ _ h => h) (by rfl) ?_ (Grew.refl w1).drew ?_
    rotate_left
    · (intro W hW; obtain ⟨c0, c1, c2⟩ := HBx.out W (HG1.out.trans hW); go_simp; with_reducible rfl)
    refine held_norm (a' := ?_) ?_ ?_
    rotate_left
    · (go_simp; with_reducible rfl)
    refine held_call 2 (by kernel_rfl) rfl (by rfl) (fun K hK => ?_)
    go_simp
    go_wp2_with (go_at_call 7; (with_reducible refine (HOf.out _).grows.mono ?_); rintro e w2 ⟨rfl, hg2⟩; have G2 := Lib.hid (show Grew w1 w2 from ((Grew.refl w1).drew).trans hg2); clear hg2)
    refine hK.out _ _ G2.out ?_
    clear hK K
    refine held_call 5 (by kernel_rfl) rfl (by rfl) (fun K hK => ?_)
    go_simp
    go_wp2_with (go_at_call 8; (with_reducible refine (HROf.out _).grows.mono ?_); rintro e w3 ⟨rfl, hg3⟩; have G3 := Lib.hid (G2.out.trans hg3); clear hg3)
    refine hK.out _ _ G3.out ?_
    clear hK K
    refine held_take 6 (v := ?_) rfl (by kernel_rfl) (by kernel_rfl) (by kernel_rfl) (fun _ _ _ h => h) (by rfl) ?_ G3.out ?_
    rotate_left
    · (intro W hW; go_simp; with_reducible rfl)
    refine held_take 7 (v := ?_) rfl (by kernel_rfl) (by kernel_rfl) (by kernel_rfl) (fun _ _ _ h => h) (by rfl) ?_ G3.out ?_
    rotate_left
    · (intro W hW; go_simp; with_reducible rfl)
    refine held_take 8 (v := ?_) rfl (by kernel_rfl) (by kernel_rfl) (by kernel_rfl) (fun _ _ _ h => h) (by rfl) ?_ G3.out ?_
    rotate_left
    · (intro W hW; go_simp; with_reducible rfl)
    refine held_take 9 (v := ?_) rfl (by kernel_rfl) (by kernel_rfl) (by kernel_rfl) (fun _ _ _ h => h) (by rfl) ?_ G3.out ?_
    rotate_left
    · (intro W hW; go_simp; with_reducible rfl)
    refine held_take 11 (v := ?_) rfl (by kernel_rfl) (by kernel_rfl) (by kernel_rfl) (fun _ _ _ h => h) (by rfl) ?_ G3.out ?_
    rotate_left
    · (intro W hW; go_simp; with_reducible rfl)
    refine held_take 12 (v := ?_) rfl (by kernel_rfl) (by kernel_rfl) (by kernel_rfl) (fun _ _ _ h => h) (by rfl) ?_ G3.out ?_
    rotate_left
    · (intro W hW; go_simp; with_reducible rfl)
    refine held_norm (a' := ?_) ?_ ?_
    rotate_left
    · (go_simp; with_reducible rfl)
    refine held_call 10 (by kernel_rfl) rfl (by rfl) (fun K hK => ?_)
    go_simp
    go_wp2_with (go_at_call 9; (with_reducible refine (HRow.out _ (HG0.out.trans (HG1.out.trans G3.out))).grows.mono ?_); rintro e w4 ⟨rfl, hg4⟩; have G4 := Lib.hid (G3.out.trans hg4); clear hg4)
    refine hK.out _ _ G4.out ?_
    clear hK K
    refine held_call 13 (by kernel_rfl) rfl (by rfl) (fun K hK => ?_)
    go_simp
    go_wp2_with (go_at_call 10; (with_reducible refine (HRRow.out _ (HG0.out.trans (HG1.out.trans G4.out))).grows.mono ?_); rintro e w5 ⟨rfl, hg5⟩; have G5 := Lib.hid (G4.out.trans hg5); clear hg5)
    refine hK.out _ _ G5.out ?_
    clear hK K
    refine held_take 14 (v := ?_) rfl (by kernel_rfl) (by kernel_rfl) (by kernel_rfl) (fun _ _ _ h => h) (by rfl) ?_ G5.out ?_
    rotate_left
    · (intro W hW; go_simp; with_reducible rfl)
    refine held_take 15 (v := ?_) rfl (by kernel_rfl) (by kernel_rfl) (by kernel_rfl) (fun _ _ _ h => h) (by rfl) ?_ G5.out ?_
    rotate_left
    · (intro W hW; go_simp; with_reducible rfl)
    refine held_take 16 (v := ?_) rfl (by kernel_rfl) (by kernel_rfl) (by kernel_rfl) (fun _ _ _ h => h) (by rfl) ?_ G5.out ?_
    rotate_left
    · (intro W hW; go_simp; with_reducible rfl)
    refine held_norm (a' := ?_) ?_ ?_
    rotate_left
    · (go_simp; with_reducible rfl)
    refine held_call 17 (by kernel_rfl) rfl (by rfl) (fun K hK => ?_)
    go_simp
    go_wp2_with (go_at_call 6; (with_reducible refine (live17_any _).grows.mono ?_); rintro e w6 ⟨rfl, hg6⟩; have G6 := Lib.hid (G5.out.trans hg6); clear hg6)
    refine hK.out _ _ G6.out ?_
    clear hK K
    refine held_take 18 (v := ?_) rfl (by kernel_rfl) (by kernel_rfl) (by kernel_rfl) (fun _ _ _ h => h) (by rfl) ?_ G6.out ?_
    rotate_left
    · (intro W hW; go_simp; with_reducible rfl)
    refine held_take 19 (v := ?_) rfl (by kernel_rfl) (by kernel_rfl) (by kernel_rfl) (fun _ _ _ h => h) (by rfl) ?_ G6.out ?_
    rotate_left
    · (intro W hW; go_simp; with_reducible rfl)
    refine held_norm (a' := ?_) ?_ ?_
    rotate_left
    · (go_simp; with_reducible rfl)
    refine held_done (by kernel_rfl) ?_
    go_wp2
    go_ret
    exact ⟨rfl, HG0.out.trans (HG1.out.trans G6.out)⟩
end Go.Proofs.YtanljiokoehlaaaDoor
