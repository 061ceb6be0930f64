/- Layer 39: numbers as bytes, the document's own; many of them. Condition: not more than some thousands of numbers. -/
import Derived.Test.YtcokhgomibimcaaCode
namespace Go.Proofs.Ytcokhgomibimcaa
open Go.RowKit
attribute [local go_sem] more_cell more_frozen more_more more_setCell more_of_drew more_of_drewN lt_more le_more past_cell past_cell2 past_frozen past_frozen2 past_setCell past_setCell2 mid_cell mid_frozen mid_setCell
attribute [local go_sem ↓] Go.wp_at_zero Go.wp_at_succ

set_option maxRecDepth 100000 in
theorem rint_any (n : Int) (h1 : -9223372036854775808 ≤ n) (h2 : n ≤ 9223372036854775807) (w : World) :
    Calls Try.prog 18 #[.int .i64 n] w (PutF w (vb (zz n))) := by
  obtain ⟨all, hall⟩ : ∃ all, vb (zz n) = all := ⟨_, rfl⟩
  rw [hall]
  have HAll := Lib.hid hall
  clear hall
  have HZ := Lib.hid (zz_lt n h1 h2)
  by_cases h : n < 0
  · go_enter Try.func18, Try.ntmps18
    go_wp2
    rw [show -(n + 1) * 2 + 1 = ((zz n : Nat) : Int) from by unfold zz; rw [if_pos h]; omega]
    generalize zz n = z0 at *
    go_loopw [4, 3] (fun v x wr => PutAt w all [] v x wr) (fun _ x _ => (intOf x).toNat)
    case atStart => exact ⟨[], z0, none, 0, rfl, rfl, own_none _ _ _ _, Grew.refl _, HAll.out.symm, HZ.out, by have := vb_len z0; simp; omega⟩
    case round =>
      obtain ⟨done, z, A', c', rfl, rfl, ho, hg, he, hz, hlen⟩ := hrel
      have HO := Lib.hid ho
      have HG := Lib.hid hg
      have HE := Lib.hid he
      have HZ := Lib.hid hz
      have HL := Lib.hid hlen
      have hd : done.length ≤ 100 := by simp at hlen; omega
      clear ho hg he hz hlen
      by_cases hb : z < 128
      · have hbi : (z : Int) < 128 := by omega
        have HV := Lib.hid (vb_small z hb)
        go_wp2_with (at_builtin; refine wpList_app rfl (.tmp 27) (.tmp 30) 22 5 rfl w (.int .u8 0) 1 Try.underlying22 infoB rfl (by decide) _ done.length (bV done) rfl (own_alloc HO.out _) _ 1 1 [.int .u8 (z : Int)] rfl rfl (row_one _ _ _ _ rfl) (by simp; rfl) (by omega) (HG.out.alloc _) ?_)
        intro A2 c2 w2 ho2 _ hg2 _ _
        have HF : Hid (PutF w all (.returned (.slice A2 (done.length + 1) c2)) w2) := Lib.hid (by
          have e1 : all = done ++ [z] := by rw [HE.out, HV.out]
          have e2 : done.length + 1 = all.length := by rw [e1]; simp
          refine ⟨A2, c2, by rw [e2], ?_, hg2⟩
          rw [← e2, e1, bV_append]
          exact ho2)
        clear ho2 hg2
        go_wp2
        go_ret
        exact HF.out
      · have hbi : 128 ≤ (z : Int) := by omega
        obtain ⟨r, hr⟩ : ∃ r, z % 128 = r := ⟨_, rfl⟩
        obtain ⟨y, hy⟩ : ∃ y, r + 128 = y := ⟨_, rfl⟩
        obtain ⟨q, hq⟩ : ∃ q, z / 128 = q := ⟨_, rfl⟩
        have hr1 : r < 128 := by omega
        have er : (z : Int) % 128 = (r : Int) := by omega
        have er2 : (z : Int).tmod 128 = (r : Int) := by rw [Int.tmod_eq_emod_of_nonneg (by omega)]; omega
        have ey : (r : Int) + 128 = (y : Int) := by omega
        have eq1 : (z : Int) / 128 = (q : Int) := by omega
        have eq2 : (z : Int).tdiv 128 = (q : Int) := by rw [Int.tdiv_eq_ediv_of_nonneg (by omega)]; omega
        have eq3 : IntKind.u64.wrap (q : Int) = (q : Int) := by have := HZ.out; rw [wrapu]; omega
        have HV := Lib.hid (vb_big z hb HZ.out)
        have hqz : q < z := by omega
        have HY := Lib.hid hy
        have HQ := Lib.hid hq
        have HR := Lib.hid hr
        clear hy hq hr
        go_wp2_with (at_builtin; refine wpList_app rfl (.tmp 18) (.tmp 23) 22 5 rfl w (.int .u8 0) 1 Try.underlying22 infoB rfl (by decide) _ done.length (bV done) rfl (own_alloc HO.out _) _ 1 1 [.int .u8 (y : Int)] rfl rfl (row_one _ _ _ _ rfl) (by simp; rfl) (by omega) (HG.out.alloc _) ?_)
        intro A2 c2 w2 ho2 _ hg2 _ _
        have HF : Hid (PutAt w all [] (.slice A2 (done.length + 1) c2) (.int .u64 (q : Int)) w2) := Lib.hid (by
          have hv := HV.out
          rw [HR.out, HY.out, HQ.out] at hv
          have hl2 := HL.out
          rw [hv, List.length_cons] at hl2
          refine ⟨done ++ [y], q, A2, c2, by simp, rfl, ?_, hg2, by rw [HE.out, hv]; simp, by have := HZ.out; omega, by rw [List.length_append]; simp at hl2 ⊢; omega⟩
          rw [bV_append, List.length_append]
          exact ho2)
        clear ho2 hg2
        go_wp2
        refine ⟨HF.out, ?_⟩
        simp only [intOf]
        omega
  · go_enter Try.func18, Try.ntmps18
    go_wp2
    rw [show n * 2 = ((zz n : Nat) : Int) from by unfold zz; rw [if_neg (by omega)]; omega]
    generalize zz n = z0 at *
    go_loopw [4, 3] (fun v x wr => PutAt w all [] v x wr) (fun _ x _ => (intOf x).toNat)
    case atStart => exact ⟨[], z0, none, 0, rfl, rfl, own_none _ _ _ _, Grew.refl _, HAll.out.symm, HZ.out, by have := vb_len z0; simp; omega⟩
    case round =>
      obtain ⟨done, z, A', c', rfl, rfl, ho, hg, he, hz, hlen⟩ := hrel
      have HO := Lib.hid ho
      have HG := Lib.hid hg
      have HE := Lib.hid he
      have HZ := Lib.hid hz
      have HL := Lib.hid hlen
      have hd : done.length ≤ 100 := by simp at hlen; omega
      clear ho hg he hz hlen
      by_cases hb : z < 128
      · have hbi : (z : Int) < 128 := by omega
        have HV := Lib.hid (vb_small z hb)
        go_wp2_with (at_builtin; refine wpList_app rfl (.tmp 27) (.tmp 30) 22 5 rfl w (.int .u8 0) 1 Try.underlying22 infoB rfl (by decide) _ done.length (bV done) rfl (own_alloc HO.out _) _ 1 1 [.int .u8 (z : Int)] rfl rfl (row_one _ _ _ _ rfl) (by simp; rfl) (by omega) (HG.out.alloc _) ?_)
        intro A2 c2 w2 ho2 _ hg2 _ _
        have HF : Hid (PutF w all (.returned (.slice A2 (done.length + 1) c2)) w2) := Lib.hid (by
          have e1 : all = done ++ [z] := by rw [HE.out, HV.out]
          have e2 : done.length + 1 = all.length := by rw [e1]; simp
          refine ⟨A2, c2, by rw [e2], ?_, hg2⟩
          rw [← e2, e1, bV_append]
          exact ho2)
        clear ho2 hg2
        go_wp2
        go_ret
        exact HF.out
      · have hbi : 128 ≤ (z : Int) := by omega
        obtain ⟨r, hr⟩ : ∃ r, z % 128 = r := ⟨_, rfl⟩
        obtain ⟨y, hy⟩ : ∃ y, r + 128 = y := ⟨_, rfl⟩
        obtain ⟨q, hq⟩ : ∃ q, z / 128 = q := ⟨_, rfl⟩
        have hr1 : r < 128 := by omega
        have er : (z : Int) % 128 = (r : Int) := by omega
        have er2 : (z : Int).tmod 128 = (r : Int) := by rw [Int.tmod_eq_emod_of_nonneg (by omega)]; omega
        have ey : (r : Int) + 128 = (y : Int) := by omega
        have eq1 : (z : Int) / 128 = (q : Int) := by omega
        have eq2 : (z : Int).tdiv 128 = (q : Int) := by rw [Int.tdiv_eq_ediv_of_nonneg (by omega)]; omega
        have eq3 : IntKind.u64.wrap (q : Int) = (q : Int) := by have := HZ.out; rw [wrapu]; omega
        have HV := Lib.hid (vb_big z hb HZ.out)
        have hqz : q < z := by omega
        have HY := Lib.hid hy
        have HQ := Lib.hid hq
        have HR := Lib.hid hr
        clear hy hq hr
        go_wp2_with (at_builtin; refine wpList_app rfl (.tmp 18) (.tmp 23) 22 5 rfl w (.int .u8 0) 1 Try.underlying22 infoB rfl (by decide) _ done.length (bV done) rfl (own_alloc HO.out _) _ 1 1 [.int .u8 (y : Int)] rfl rfl (row_one _ _ _ _ rfl) (by simp; rfl) (by omega) (HG.out.alloc _) ?_)
        intro A2 c2 w2 ho2 _ hg2 _ _
        have HF : Hid (PutAt w all [] (.slice A2 (done.length + 1) c2) (.int .u64 (q : Int)) w2) := Lib.hid (by
          have hv := HV.out
          rw [HR.out, HY.out, HQ.out] at hv
          have hl2 := HL.out
          rw [hv, List.length_cons] at hl2
          refine ⟨done ++ [y], q, A2, c2, by simp, rfl, ?_, hg2, by rw [HE.out, hv]; simp, by have := HZ.out; omega, by rw [List.length_append]; simp at hl2 ⊢; omega⟩
          rw [bV_append, List.length_append]
          exact ho2)
        clear ho2 hg2
        go_wp2
        refine ⟨HF.out, ?_⟩
        simp only [intOf]
        omega
end Go.Proofs.Ytcokhgomibimcaa
