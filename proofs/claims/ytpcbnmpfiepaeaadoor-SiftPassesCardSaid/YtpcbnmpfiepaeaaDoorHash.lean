/- Layer 17: numbers of bytes, by the program and by the document's own answer. Condition: a number of 64 bits without a sign. -/
import Derived.Test.YtpcbnmpfiepaeaaDoorRows
import Derived.Test.YtpcbnmpfiepaeaaDoorKit3
import Derived.Lib.Hide
import Derived.OpenShut
import Derived.Laws.BitsAllLaws
import Derived.Deep.RegionHeld3
import Derived.Deep.DrawnRows
namespace Go.Proofs.YtpcbnmpfiepaeaaDoor
open Go.RowKit
attribute [local go_sem] more_cell more_frozen more_more more_setCell more_of_drew more_of_drewN lt_more le_more past_cell past_cell2 past_frozen past_frozen2 past_setCell past_setCell2 mid_cell mid_frozen mid_setCell
attribute [local go_sem ↓] Go.wp_at_zero Go.wp_at_succ

def uI (x : Int) : Prop := 0 ≤ x ∧ x < 18446744073709551616
def m1 (h : Int) : Int := IntKind.u64.wrap (bits .xor .u64 h (h / 2147483648) * 11400714819323198485)
def m2 (h : Int) : Int := IntKind.u64.wrap (bits .xor .u64 h (h / 536870912) * 13787848793156543929)
def m3 (h : Int) : Int := bits .xor .u64 h (h / 4294967296)
def mixI (h : Int) : Int := m3 (m2 (m1 h))
def byteI (h b : Int) : Int := IntKind.u64.wrap (bits .xor .u64 h b * 1099511628211)
def startI (n : Int) : Int := mixI (IntKind.u64.wrap (IntKind.u64.wrap n + 2685821657736338717))
def bucketI (h n : Int) : Int := if n < 1 then 0 else h / 4294967296 % n
theorem wrap_u (z : Int) : IntKind.u64.wrap z = z % 18446744073709551616 := by unfold IntKind.wrap; rfl
theorem wrap_uI (z : Int) : uI (IntKind.u64.wrap z) := by
  rw [wrap_u]
  unfold uI
  omega
theorem xor_uI {a b : Int} (ha : uI a) (hb : uI b) : uI (bits .xor .u64 a b) := by
  unfold uI at ha hb
  rw [u64_xor a b ha.1 ha.2 hb.1 hb.2]
  have h := Nat.xor_lt_two_pow (x := a.toNat) (y := b.toNat) (n := 64) (by omega) (by omega)
  unfold uI
  omega
theorem div_uI {a : Int} (c : Int) (ha : uI a) : uI (a / c) ∨ c < 0 := by
  rcases (by omega : c < 0 ∨ 0 ≤ c) with hc | hc
  · exact Or.inr hc
  · unfold uI at ha ⊢
    exact Or.inl ⟨Int.ediv_nonneg ha.1 hc, Int.lt_of_le_of_lt (Int.ediv_le_self _ ha.1) ha.2⟩
theorem m3_uI {h : Int} (hh : uI h) : uI (m3 h) := xor_uI hh ((div_uI 4294967296 hh).resolve_right (by decide))
theorem mixI_uI (h : Int) : uI (mixI h) := m3_uI (wrap_uI _)
theorem byteI_uI (h b : Int) : uI (byteI h b) := wrap_uI _
theorem startI_uI (n : Int) : uI (startI n) := mixI_uI _
theorem wrap_tdiv1 (x : Int) : IntKind.u64.wrap ((IntKind.u64.wrap x).tdiv 536870912) = IntKind.u64.wrap x / 536870912 := by
  have h := wrap_uI x
  generalize IntKind.u64.wrap x = y at h
  unfold uI at h
  rw [Int.tdiv_eq_ediv_of_nonneg h.1, wrap_u]
  omega
theorem wrap_tdiv2 (x : Int) : IntKind.u64.wrap ((IntKind.u64.wrap x).tdiv 4294967296) = IntKind.u64.wrap x / 4294967296 := by
  have h := wrap_uI x
  generalize IntKind.u64.wrap x = y at h
  unfold uI at h
  rw [Int.tdiv_eq_ediv_of_nonneg h.1, wrap_u]
  omega
attribute [local go_sem] wrap_tdiv1 wrap_tdiv2
theorem mix_any (h : Int) (hh : uI h) (w : World) : Calls Tryd.prog 51 #[.int .u64 h] w fun e w' => e = .returned (.int .u64 (mixI h)) ∧ w' = w := by
  have h0 : 0 ≤ h := hh.1
  have h1 : h < 18446744073709551616 := hh.2
  clear hh
  go_enter Tryd.func51, Tryd.ntmps51
  go_wp2
  go_ret
  exact ⟨rfl, rfl⟩
theorem rmix_any (h : Int) (hh : uI h) (w : World) : Calls Tryd.prog 60 #[.int .u64 h] w fun e w' => e = .returned (.int .u64 (mixI h)) ∧ w' = w := by
  have h0 : 0 ≤ h := hh.1
  have h1 : h < 18446744073709551616 := hh.2
  clear hh
  go_enter Tryd.func60, Tryd.ntmps60
  go_wp2
  go_ret
  exact ⟨rfl, rfl⟩
theorem bucket_any (h n : Int) (hh : uI h) (hn : n ≤ 9223372036854775807) (w : World) : Calls Tryd.prog 38 #[.int .u64 h, .int .i64 n] w fun e w' => e = .returned (.int .i64 (bucketI h n)) ∧ w' = w := by
  have h0 : 0 ≤ h := hh.1
  have h1 : h < 18446744073709551616 := hh.2
  clear hh
  by_cases hn1 : n < 1
  · have HB := Lib.hid (show bucketI h n = 0 from if_pos hn1)
    go_enter Tryd.func38, Tryd.ntmps38
    go_wp2
    go_ret
    exact ⟨ret_int HB.out.symm, rfl⟩
  · have HB := Lib.hid (show bucketI h n = h / 4294967296 % n from if_neg hn1)
    have hw : IntKind.u64.wrap n = n := by rw [wrap_u]; omega
    have hz : (n == 0) = false := by rw [beq_eq_false_iff_ne]; omega
    have hz2 : n ≠ 0 := by omega
    have b0 : 0 ≤ h / 4294967296 % n := Int.emod_nonneg _ hz2
    have b1 : h / 4294967296 % n < n := Int.emod_lt_of_pos _ (by omega)
    have hq : wrap64 (h / 4294967296 % n) = h / 4294967296 % n := by unfold wrap64; omega
    go_enter Tryd.func38, Tryd.ntmps38
    go_wp2
    go_ret
    exact ⟨ret_int HB.out.symm, rfl⟩
theorem rbucket_any (h n : Int) (hh : uI h) (w : World) : Calls Tryd.prog 59 #[.int .u64 h, .int .i64 n] w fun e w' => e = .returned (.int .i64 (bucketI h n)) ∧ w' = w := by
  have h0 : 0 ≤ h := hh.1
  have h1 : h < 18446744073709551616 := hh.2
  clear hh
  by_cases hn1 : n < 1
  · have HB := Lib.hid (show bucketI h n = 0 from if_pos hn1)
    go_enter Tryd.func59, Tryd.ntmps59
    go_wp2
    go_ret
    exact ⟨ret_int HB.out.symm, rfl⟩
  · have HB := Lib.hid (show bucketI h n = h / 4294967296 % n from if_neg hn1)
    go_enter Tryd.func59, Tryd.ntmps59
    go_wp2
    go_ret
    exact ⟨ret_int HB.out.symm, rfl⟩
theorem byte_any (h b : Int) (hh : uI h) (b0 : 0 ≤ b) (b1 : b < 256) (w : World) : Calls Tryd.prog 50 #[.int .u64 h, .int .u8 b] w fun e w' => e = .returned (.int .u64 (byteI h b)) ∧ w' = w := by
  have h0 : 0 ≤ h := hh.1
  have h1 : h < 18446744073709551616 := hh.2
  clear hh
  go_enter Tryd.func50, Tryd.ntmps50
  go_wp2
  go_ret
  exact ⟨rfl, rfl⟩
theorem start_any (n : Int) (w : World) : Calls Tryd.prog 49 #[.int .i64 n] w fun e w' => e = .returned (.int .u64 (startI n)) ∧ w' = w := by
  go_enter Tryd.func49, Tryd.ntmps49
  go_wp2_with (go_at_call 51; refine (mix_any _ (wrap_uI _) _).mono ?_; rintro e w' ⟨rfl, rfl⟩)
  go_ret
  exact ⟨rfl, rfl⟩
theorem wf_u64 {a : Int} (h : (Lit.int .u64 a).wf = true) : uI a := by
  have h1 : IntKind.u64.min ≤ a ∧ a ≤ IntKind.u64.max := by simpa [Lit.wf] using h
  have h2 : IntKind.u64.min = 0 := rfl
  have h3 : IntKind.u64.max = 18446744073709551615 := rfl
  unfold uI
  omega
theorem wf_u8 {a : Int} (h : (Lit.int .u8 a).wf = true) : 0 ≤ a ∧ a < 256 := by
  have h1 : IntKind.u8.min ≤ a ∧ a ≤ IntKind.u8.max := by simpa [Lit.wf] using h
  have h2 : IntKind.u8.min = 0 := rfl
  have h3 : IntKind.u8.max = 255 := rfl
  omega
theorem wf_i64 {a : Int} (h : (Lit.int .i64 a).wf = true) : -9223372036854775808 ≤ a ∧ a ≤ 9223372036854775807 := by
  have := Go.bounds_i64 h
  omega
end Go.Proofs.YtpcbnmpfiepaeaaDoor
