/- Layer 39: numbers put behind bytes. Condition: not more than a million bytes. -/
import Derived.Test.YtcokhgomibimcaaRows
import Derived.Test.YtcokhgomibimcaaCodeMath
import Derived.StillTailTactics
import Derived.OpenShut
import Derived.Deep.RegionHeld3
import Derived.Deep.DrawnRows
import Derived.Laws.BitsAllLaws
import Derived.Deep.DeepCutAuto
namespace Go.Proofs.Ytcokhgomibimcaa
open Go.RowKit
attribute [local go_sem] more_cell more_frozen more_more more_setCell more_of_drew more_of_drewN lt_more le_more past_cell past_cell2 past_frozen past_frozen2 past_setCell past_setCell2 mid_cell mid_frozen mid_setCell
attribute [local go_sem ↓] Go.wp_at_zero Go.wp_at_succ

def bV (l : List Nat) : List Value := l.map fun (x : Nat) => Value.int .u8 (x : Int)
theorem bV_one (l : List Nat) : ∀ u ∈ bV l, u.oneCell' = true := by
  intro u hu
  obtain ⟨z, _, rfl⟩ := List.mem_map.1 hu
  rfl
theorem bV_append (a b : List Nat) : bV (a ++ b) = bV a ++ bV b := by unfold bV; rw [List.map_append]
theorem infoB : (Try.prog.info? 5).map (fun i => (i.zero, i.size, i.bytes)) = some (some (.int .u8 0), 1, 1) := by kernel_rfl
/-- Bytes of one's own are left, above u. -/
def PutF (u : World) (bs : List Nat) (e : Ending) (w' : World) : Prop := ∃ A c, e = .returned (.slice A bs.length c) ∧ w'.ownsRow u.heap.size 5 1 (.slice A bs.length c) bs.length (bV bs) ∧ Grew u w'
theorem xor_all (a : Nat) (h : a < 18446744073709551616) : a ^^^ 18446744073709551615 = 18446744073709551615 - a := by
  apply Nat.eq_of_testBit_eq
  intro i
  have e1 : (18446744073709551615 : Nat) - a = 2 ^ 64 - (a + 1) := by omega
  rw [e1, Nat.testBit_two_pow_sub_succ h, Nat.testBit_xor]
  have e2 : (18446744073709551615 : Nat).testBit i = decide (i < 64) := by
    rw [show (18446744073709551615 : Nat) = 2 ^ 64 - 1 from rfl, Nat.testBit_two_pow_sub_one]
  rw [e2]
  by_cases hi : i < 64
  · simp [hi]
  · have : a.testBit i = false := Nat.testBit_lt_two_pow (Nat.lt_of_lt_of_le h (Nat.pow_le_pow_right (show 2 > 0 by decide) (show 64 ≤ i by omega)))
    simp [hi, this]
theorem or128 : ∀ y, y < 256 → y ||| 128 = y % 128 + 128 := by decide +kernel
theorem wrapu (z : Int) : IntKind.u64.wrap z = z % 18446744073709551616 := by unfold IntKind.wrap; rfl
theorem wrapb (z : Int) : IntKind.u8.wrap z = z % 256 := by unfold IntKind.wrap; rfl
theorem zig (n : Int) (h1 : -9223372036854775808 ≤ n) (h2 : n ≤ 9223372036854775807) : bits .xor .u64 (IntKind.u64.wrap (IntKind.u64.wrap n * 2)) (IntKind.u64.wrap (n / 9223372036854775808)) = ((zz n : Nat) : Int) := by
  rw [wrapu, wrapu, wrapu]
  unfold zz
  by_cases h : n < 0
  · rw [if_pos h]
    obtain ⟨a, ha⟩ : ∃ a : Nat, n % 18446744073709551616 * 2 % 18446744073709551616 = (a : Int) := ⟨(n % 18446744073709551616 * 2 % 18446744073709551616).toNat, by omega⟩
    have hb : n / 9223372036854775808 % 18446744073709551616 = ((18446744073709551615 : Nat) : Int) := by omega
    rw [ha, hb, u64_xor_nat a 18446744073709551615 (by omega) (by decide), xor_all a (by omega)]
    omega
  · rw [if_neg h]
    obtain ⟨a, ha⟩ : ∃ a : Nat, n % 18446744073709551616 * 2 % 18446744073709551616 = (a : Int) := ⟨(n % 18446744073709551616 * 2 % 18446744073709551616).toNat, by omega⟩
    have hb : n / 9223372036854775808 % 18446744073709551616 = ((0 : Nat) : Int) := by omega
    rw [ha, hb, u64_xor_nat a 0 (by omega) (by decide), Nat.xor_zero]
    omega
/-- While bytes are put. -/
def PutAt (u : World) (all bs : List Nat) (v x : Value) (wr : World) : Prop :=
  ∃ (done : List Nat) (z : Nat) (A : Option Addr) (c : Nat), v = .slice A done.length c ∧ x = .int .u64 (z : Int) ∧ wr.ownsRow u.heap.size 5 1 (.slice A done.length c) done.length (bV done) ∧ Grew u wr ∧ all = done ++ vb z ∧ z < 18446744073709551616 ∧ done.length + (vb z).length ≤ bs.length + 10
set_option maxRecDepth 100000 in
theorem put_any (u : World) (bs : List Nat) (A : Option Addr) (c : Nat) (n : Int) (h1 : -9223372036854775808 ≤ n) (h2 : n ≤ 9223372036854775807) (hl : bs.length ≤ 1000000) (w : World) (ho : w.ownsRow u.heap.size 5 1 (.slice A bs.length c) bs.length (bV bs)) (hg : Grew u w) :
    Calls Try.prog 95 #[.slice A bs.length c, .int .i64 n] w (PutF u (bs ++ vb (zz n))) := by
  have HO := Lib.hid ho
  have HG := Lib.hid hg
  clear ho hg
  obtain ⟨all, hall⟩ : ∃ all, bs ++ vb (zz n) = all := ⟨_, rfl⟩
  rw [hall]
  have HAll := Lib.hid hall
  clear hall
  go_enter Try.func95, Try.ntmps95
  go_upto_region 2 with fail
  rw [zig n h1 h2]
  have HZ := Lib.hid (zz_lt n h1 h2)
  generalize zz n = z0 at *
  go_wp2
  go_loopw [0, 5] (fun v x wr => PutAt u all bs v x wr) (fun _ x _ => (intOf x).toNat)
  case atStart => exact ⟨bs, z0, A, c, rfl, rfl, HO.out, HG.out, HAll.out.symm, HZ.out, by have := vb_len z0; omega⟩
  case round =>
    obtain ⟨done, z, A', c', rfl, rfl, ho, hg, he, hz, hlen⟩ := hrel
    have HO := Lib.hid ho
    have HG := Lib.hid hg
    have HE := Lib.hid he
    have HZ := Lib.hid hz
    have hd : done.length ≤ 1000010 := by omega
    have HL := Lib.hid hlen
    clear ho hg he hz hlen
    by_cases hb : z < 128
    · have hbi : (z : Int) < 128 := by omega
      have ew : IntKind.u8.wrap (z : Int) = (z : Int) := by rw [wrapb]; omega
      have HV := Lib.hid (vb_small z hb)
      go_wp2_with (at_builtin; refine wpList_app rfl (.tmp 23) (.tmp 26) 22 5 rfl u (.int .u8 0) 1 Try.underlying22 infoB rfl (by decide) _ done.length (bV done) rfl (own_alloc HO.out _) _ 1 1 [.int .u8 (z : Int)] rfl rfl (row_one _ _ _ _ rfl) (by simp; rfl) (by omega) (HG.out.alloc _) ?_)
      intro A2 c2 w2 ho2 _ hg2 _ _
      have HF : Hid (PutF u all (.returned (.slice A2 (done.length + 1) c2)) w2) := Lib.hid (by
        have e1 : all = done ++ [z] := by rw [HE.out, HV.out]
        have e2 : done.length + 1 = all.length := by rw [e1]; simp
        refine ⟨A2, c2, by rw [e2], ?_, hg2⟩
        rw [← e2, e1, bV_append]
        exact ho2)
      clear ho2 hg2
      go_wp2
      go_ret
      exact HF.out
    · have hbi : 128 ≤ (z : Int) := by omega
      obtain ⟨y, hy⟩ : ∃ y, z % 128 + 128 = y := ⟨_, rfl⟩
      obtain ⟨q, hq⟩ : ∃ q, z / 128 = q := ⟨_, rfl⟩
      have ey : bits .or .u8 ((z : Int) % 256) 128 = (y : Int) := by
        rw [show (z : Int) % 256 = ((z % 256 : Nat) : Int) by omega, show (128 : Int) = ((128 : Nat) : Int) from rfl, u8_or_nat (z % 256) 128 (by omega) (by decide), or128 (z % 256) (by omega)]
        omega
      have eq1 : (z : Int) / 128 = (q : Int) := by omega
      have HV := Lib.hid (vb_big z hb HZ.out)
      have hqz : q < z := by omega
      go_wp2_with (at_builtin; refine wpList_app rfl (.tmp 15) (.tmp 19) 22 5 rfl u (.int .u8 0) 1 Try.underlying22 infoB rfl (by decide) _ done.length (bV done) rfl (own_alloc HO.out _) _ 1 1 [.int .u8 (y : Int)] rfl rfl (row_one _ _ _ _ rfl) (by simp; rfl) (by omega) (HG.out.alloc _) ?_)
      intro A2 c2 w2 ho2 _ hg2 _ _
      have HF : Hid (PutAt u all bs (.slice A2 (done.length + 1) c2) (.int .u64 (q : Int)) w2) := Lib.hid (by
        have hv := HV.out
        rw [hy, hq] at hv
        have hl2 := HL.out
        rw [hv, List.length_cons] at hl2
        refine ⟨done ++ [y], q, A2, c2, by simp, rfl, ?_, hg2, by rw [HE.out, hv]; simp, by have := HZ.out; omega, by rw [List.length_append]; simp; omega⟩
        rw [bV_append, List.length_append]
        exact ho2)
      clear ho2 hg2 hq hy
      go_wp2
      refine ⟨HF.out, ?_⟩
      simp only [intOf]
      omega
end Go.Proofs.Ytcokhgomibimcaa
