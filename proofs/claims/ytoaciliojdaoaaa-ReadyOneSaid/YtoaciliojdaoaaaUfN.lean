/- Layer 6: classes that are made, of more numbers. No condition. -/
import Derived.Test.YtoaciliojdaoaaaUf5
namespace Go.Proofs.Ytoaciliojdaoaaa
open Go.RowKit
attribute [local go_sem] more_cell more_frozen more_more more_setCell more_of_drew more_of_drewN lt_more le_more past_cell past_cell2 past_frozen past_frozen2 past_setCell past_setCell2 mid_cell mid_frozen mid_setCell
attribute [local go_sem ↓] Go.wp_at_zero Go.wp_at_succ

set_option maxRecDepth 400000 in
theorem new_anyB (n : Nat) (hn : n ≤ 1000) (w : World) : Calls Try.prog 73 #[.int .i64 n] w (Newly w n) := by
  obtain ⟨j0, hj, hj'⟩ := Option.map_eq_some_iff.1 infoInt3
  simp only [Prod.mk.injEq] at hj'
  obtain ⟨hj0, hj1, hj2⟩ := hj'
  have HJ := Lib.hid hj
  have HJ0 := Lib.hid hj0
  have HJ1 := Lib.hid hj1
  have HJ2 := Lib.hid hj2
  clear hj hj0 hj1 hj2
  have hmx : max 0 (n : Int) = n := by omega
  have hmn : min 65536 (n : Int) = n := by omega
  have hif : (if 0 < n then (n : Int) else 0) = (n : Int) := by split <;> omega
  have hlt : (n : Int) < 65536 := by omega
  have HN := Lib.hid hn
  clear hn
  go_enter Try.func73, Try.ntmps73
  go_wp2_with (at_make; refine wpList_make_row _ rfl _ _ 30 rfl 3 j0 (.int .i64 0) Try.underlying30 HJ.out HJ0.out HJ1.out rfl _ _ n rfl rfl (by rw [HJ2.out]; have := HN.out; omega) (by have := HN.out; omega) ?_)
  go_loopw [14] (fun i wr => UpTo w (w.heap.size + 1) w.heap.size n i wr) (fun i _ => n - (intOf i).toNat)
  case atStart =>
    refine ⟨0, Nat.zero_le _, rfl, by (show Grew _ _; repeat (first | exact Grew.refl _ | refine Grew.alloc ?_ _ | refine Grew.drew ?_ | refine Grew.more ?_ _)), ?_⟩
    refine ⟨Blok.new _ _ _ _ (by rw [World.size_alloc]), ?_, by omega, by have := HN.out; omega⟩
    refine Blok.alloc ?_ _
    rw [made_nums n (fun j => if j < 0 then j else 0) (fun i => by simp)]
    exact Blok.new _ _ _ _ rfl
  case round =>
    obtain ⟨k, hk, rfl, hg, hu⟩ := hrel
    have c0 := hu.top.cell 0
    have c1 := hu.row.cell k
    have z1 := hu.row.thaw k
    have HG := Lib.hid hg
    have HV := Lib.hid hu
    simp at c0
    clear hg hu hif hlt hmx hmn
    have hk40 : k ≤ 1000 := by have := HN.out; omega
    by_cases h : k < n
    · rw [numsV_at n _ k h] at c1
      have HW : Hid (∀ W g h c, UfAt W g h n (fun i => if i = k then k else (fun j => if j < k then j else 0) i) c → UfAt W g h n (fun j => if j < k + 1 then j else 0) c) := Lib.hid (by
        intro W g h c hh
        have e : (fun i => if i = k then k else (fun j => if j < k then j else 0) i) = (fun j => if j < k + 1 then j else 0) := by
          funext i
          by_cases e1 : i = k
          · subst e1; simp
          · by_cases e2 : i < k
            · simp [e1, e2]; omega
            · rw [if_neg e1, if_neg (by omega)]; simp [e2]
        rw [← e]
        exact hh)
      have HS := Lib.hid (HW.out _ _ _ _ (HV.out.set k k))
      have HGS := Lib.hid (HG.out.setCell (a := ⟨w.heap.size, k, none⟩) (Nat.le_refl _) (.int .i64 (k : Int)))
      clear HW HV HG
      go_wp2
      refine ⟨⟨k + 1, by omega, by go_num, ?_, ?_⟩, ?_⟩
      · with_reducible exact HGS.out
      · with_reducible exact HS.out
      · simp only [intOf]
        omega
    · obtain rfl : k = n := by omega
      go_wp2
      go_ret
      refine ⟨_, _, rfl, by omega, by omega, HG.out, _, HV.out, ?_⟩
      refine ⟨fun i hi => ?_, fun i hi => ?_, fun i hi _ => rfl⟩
      · simp only [if_pos hi]; omega
      · simp only [if_pos hi]
theorem uf_newB (n : Nat) (hn : n ≤ 1000) (w : World) : Calls Try.prog 73 #[.int .i64 n] w fun e w' => ∃ g h, e = .returned (.pointer (some ⟨g, 0, none⟩)) ∧ UfS w g h n id w' ∧ Grew w w' :=
  (new_anyB n hn w).mono fun e w' ⟨g, h, he, hg, hh, hG, hf⟩ => ⟨g, h, he, ⟨hG, hg, hh, ⟨fun i _ => Nat.le_refl i, fun _ _ => rfl⟩, by rw [rootsN_id]; exact hf⟩, hG⟩
theorem rjoin_any (a b : Int) (n c : Nat) (r : Nat → Nat) (A : Option Addr) (w : World) (hn : n ≤ 100000) (hr : Row w A (numsL n r)) :
    Calls Try.prog 81 #[.slice A n c, .int .i64 a, .int .i64 b] w (Nums w A n (joinI n r a b)) := by
  by_cases hi : inB n a b
  · have hi' := hi
    unfold inB at hi'
    have e1 : joinI n r a b = joinR r (r a.toNat) (r b.toNat) := if_pos hi
    obtain ⟨a', rfl⟩ := Int.eq_ofNat_of_zero_le hi'.1
    obtain ⟨b', rfl⟩ := Int.eq_ofNat_of_zero_le hi'.2.1
    rw [e1]
    rw [Int.toNat_natCast, Int.toNat_natCast]
    exact rjoin_yes A n c r a' b' _ _ w hr hn (by omega) (by omega) rfl rfl
  · have e1 : joinI n r a b = r := if_neg hi
    rw [e1]
    exact rjoin_no A n c r a b w hr (by unfold inB at hi; omega)
end Go.Proofs.Ytoaciliojdaoaaa
