/- Layer 14: the law of aggregates. Condition: values that lie in memory that is there, no part beyond the reach. -/
import Derived.Test.YtddambfniaiogaaAgg6
import Derived.Test.YtddambfniaiogaaRowMuch
namespace Go.Proofs.Ytddambfniaiogaa
open Go.RowKit
attribute [local go_sem] more_cell more_frozen more_more more_setCell more_of_drew more_of_drewN lt_more le_more past_cell past_cell2 past_frozen past_frozen2 past_setCell past_setCell2 mid_cell mid_frozen mid_setCell
attribute [local go_sem ↓] Go.wp_at_zero Go.wp_at_succ

theorem rws_one {W : World} {g : Nat} {A : Option Addr} {l : List Vl} {k : Nat} (h : Row W (some ⟨g, 0, none⟩) [.slice A l.length k]) (hk : l.length ≤ k) (h2 : VlsR (PRow W) A l) : RwsR (PRow W) (some ⟨g, 0, none⟩) [l] :=
  ⟨[[.slice A l.length k]], ⟨rfl, fun i x cs hi hd => by
    rcases i with _ | i
    · simp only [List.getElem?_cons_zero, Option.some.injEq] at hi hd
      subst hi hd
      exact ⟨⟨A, k, rfl, hk, h2⟩, rfl⟩
    · simp at hi⟩, by simpa [PRow] using h⟩
set_option maxHeartbeats 4000000 in
set_option maxRecDepth 100000 in
theorem aggOfs_walk (op : Int) (l : List Vl) (A : Option Addr) (k : Nat) (w : World) (hl : RwOk l) (hk : l.length ≤ k) (ra : VlsR (PRow w) A l) :
    Gives Try.prog 6 #[.int .i64 op, .slice A l.length k] w (.bool true) := by
  have HM : Hid (Calls Try.prog 30 #[.slice (some ⟨w.heap.size, 0, none⟩) 1 1] (w.alloc (.cells #[.slice A l.length k] 46)) (MuchR (w.alloc (.cells #[.slice A l.length k] 46)) (goodRws [l]))) := Lib.hid
    (much4_any [l] ⟨by simp, by intro r hr; simp only [List.mem_cons, List.not_mem_nil, or_false] at hr; rw [hr]; exact hl⟩ (some ⟨w.heap.size, 0, none⟩) 1 _ (rws_one (row_new w _ _ _ rfl) hk (ra.grew ((Grew.refl w).alloc _))))
  obtain ⟨⟨⟨vk, vi, vs⟩, f⟩, hv⟩ : ∃ p, tellS op l = p := ⟨_, rfl⟩
  have HV1 : Hid (l.length ≤ 40 → ∀ W, Grew w W → Gives Try.prog 32 #[.int .i64 op, .slice A l.length k] W (.tuple #[.agg #[.int .i64 vk, .int .i64 vi, .string vs], .int .i64 f])) := Lib.hid fun h W hW => by
    have := of_any14 op l (by omega) hl.2 A k W (ra.grew hW)
    rw [accL_def, show resS (defS op l) = tellS op l from rfl, hv] at this
    exact this
  have HV2 : Hid (l.length ≤ 40 → ∀ W, Grew w W → Gives Try.prog 33 #[.int .i64 op, .slice A l.length k] W (.tuple #[.agg #[.int .i64 vk, .int .i64 vi, .string vs], .int .i64 f])) := Lib.hid fun h W hW => by
    have := rof_any op l (by omega) hl.2 A k W (ra.grew hW)
    rw [hv] at this
    exact this
  have evk : (vk == vk) = true := by simp
  have evi : (vi == vi) = true := by simp
  have evs : (vs.toList == vs.toList) = true := beq_self_eq_true _
  have ef : (f == f) = true := by simp
  have HGo : Hid (goodRws [l] → l.length ≤ 40) := Lib.hid fun h => h.2.1 l (by simp)
  generalize l.length = n at *
  clear hv ra hl hk
  unfold Gives
  go_enter Try.func6, Try.ntmps6
  go_wp2_with fail
  refine HM.out.mono ?_
  rintro e w2 ⟨t1, rfl, hg2, h1⟩
  have HG2 := Lib.hid (((Grew.refl w).alloc _).trans hg2)
  have H1 := Lib.hid h1
  clear hg2 h1 HM
  cases t1
  rotate_left
  · clear HV1 HV2
    go_wp2_with (first | (go_at_call 31; (with_reducible refine (live14_any _).grows.mono ?_); rintro e w6 ⟨rfl, hg6⟩; have G6 := Lib.hid hg6; clear hg6))
    go_ret
    exact ⟨rfl, HG2.out.trans G6.out⟩
  have h40 : n ≤ 40 := HGo.out (H1.out (by first | rfl | trivial))
  have HV1 := Lib.hid (HV1.out h40)
  have HV2 := Lib.hid (HV2.out h40)
  clear H1 HGo
  go_upto_region 4 with (first | (go_at_call 32; (with_reducible refine (HV1.out _ HG2.out).grows.mono ?_); rintro e w4 ⟨rfl, hg4⟩; have HG4 := Lib.hid (HG2.out.trans hg4); clear hg4))
  obtain ⟨W4, hW4⟩ : ∃ W4, W4 = w4.alloc (.cells #[.int .i64 vk, .int .i64 vi, .string vs] 23) := ⟨_, rfl⟩
  have HG4 : Hid (Grew w W4) := Lib.hid (by rw [hW4]; exact HG4.out.alloc _)
  have HB4 : Hid (Blok W4 w4.heap.size 23 #[.int .i64 vk, .int .i64 vi, .string vs]) := Lib.hid (by rw [hW4]; exact Blok.new _ _ _ _ rfl)
  rw [← hW4]
  clear hW4
  generalize w4.heap.size = g4 at *
  go_upto_region 5 with (first | (go_at_call 33; (with_reducible refine (HV2.out _ HG4.out).grows.mono ?_); rintro e w5 ⟨rfl, hg5⟩; have HG5 := Lib.hid (HG4.out.trans hg5); have HB5 := Lib.hid (HB4.out.grew hg5); clear hg5))
  obtain ⟨W5, hW5⟩ : ∃ W5, W5 = w5.alloc (.cells #[.int .i64 vk, .int .i64 vi, .string vs] 23) := ⟨_, rfl⟩
  have HG5 : Hid (Grew w W5) := Lib.hid (by rw [hW5]; exact HG5.out.alloc _)
  have HB5 := Lib.hid (show Blok W5 _ _ _ by rw [hW5]; exact HB5.out.alloc _)
  have HC5 : Hid (Blok W5 w5.heap.size 23 #[.int .i64 vk, .int .i64 vi, .string vs]) := Lib.hid (by rw [hW5]; exact Blok.new _ _ _ _ rfl)
  rw [← hW5]
  clear hW5
  generalize w5.heap.size = g5 at *
  obtain ⟨p1, c0, c1, c2, _, _, _⟩ := val_in HB5.out
  obtain ⟨p2, d0, d1, d2, _, _, _⟩ := val_in HC5.out
  go_wp2_with (first
    | (go_at_call 34; (with_reducible refine (code14_any _ _).grows.mono ?_); rintro e w6 ⟨rfl, hg6⟩; have HG6 := Lib.hid (HG5.out.trans hg6); clear hg6)
    | (go_at_call 31; (with_reducible refine (live14_any _).grows.mono ?_); rintro e w9 ⟨rfl, hg9⟩; have HG9 := Lib.hid (HG6.out.trans hg9); clear hg9))
  go_ret
  exact ⟨rfl, HG9.out⟩
end Go.Proofs.Ytddambfniaiogaa
