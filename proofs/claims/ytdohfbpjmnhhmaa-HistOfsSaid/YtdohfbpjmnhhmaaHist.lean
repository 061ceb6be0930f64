/- Layer 27: numbers sorted by the library, and how many marks are below a number. Condition: no more than a million of them. -/
import Derived.Test.YtdohfbpjmnhhmaaIter
import Derived.Test.YtdohfbpjmnhhmaaSame
import Derived.Test.YtdohfbpjmnhhmaaHistMath
namespace Go.Proofs.Ytdohfbpjmnhhmaa
open Go.RowKit
attribute [local go_sem] more_cell more_frozen more_more more_setCell more_of_drew more_of_drewN lt_more le_more past_cell past_cell2 past_frozen past_frozen2 past_setCell past_setCell2 mid_cell mid_frozen mid_setCell
attribute [local go_sem ↓] Go.wp_at_zero Go.wp_at_succ

/-- Numbers that come back in a row. -/
def IntsF (w : World) (l : List Int) (e : Ending) (w' : World) : Prop := ∃ A k, e = .returned (.slice A l.length k) ∧ Grew w w' ∧ Row w' A (iV l)
theorem rowI_at {w : World} {A : Option Addr} {l : List Int} (h : Row w A (iV l)) {j : Nat} (hj : j < l.length) : ∃ b o, A = some ⟨b, o, none⟩ ∧ b < w.heap.size ∧ w.cell? ⟨b, o + j, none⟩ = some (.int .i64 l[j]) := by
  obtain ⟨b, o, rfl⟩ := irow_some h hj
  obtain ⟨h1, h2⟩ := irow_cell h hj rfl
  exact ⟨b, o, rfl, h1, h2⟩
theorem values_any (A : Option Addr) (n k : Nat) (w : World) : Calls Try.prog 34 #[.slice A n k] w fun e w' => e = .returned (.func (.func 42) #[] #[.pointer (some ⟨w.heap.size, 0, none⟩)]) ∧ w' = w.alloc (.cells #[.slice A n k] 38) := by
  go_enter Try.func34, Try.ntmps34
  go_wp2
  go_ret
  exact ⟨rfl, rfl⟩
theorem sorted_any (Bs : Nat) (A : Option Addr) (k : Nat) (l : List Int) (hz : l.length ≤ 1000000) (w : World) (hr : Row w A (iV l)) (hB : Bs < w.heap.size) (hBs : w.cell? ⟨Bs, 0, none⟩ = some (.slice A l.length k)) :
    Calls Try.prog 33 #[.func (.func 42) #[] #[.pointer (some ⟨Bs, 0, none⟩)]] w (IntsF w (sortI l)) := by
  have HC := Lib.hid (collect_any Bs A k l hz w hr hB hBs)
  clear hr hBs hB
  go_enter Try.func33, Try.ntmps33
  go_wp2_with fail
  refine HC.out.mono ?_
  rintro e w2 ⟨v, rfl, hrow, hb⟩
  have hl : (sortI l).length = l.length := sortI_len l
  rcases hrow.2 with ⟨rfl, h0⟩ | ⟨g, cap, cur, rfl, hbase, hgb, r1, r2, r3, r4⟩
  · have h00 : sortI l = [] := List.eq_nil_of_length_eq_zero (by omega)
    clear HC hrow
    go_wp2_with (go_at_call 28; refine (Try.slices_Sort_int_none none 0 w2).mono ?_; rintro e w' ⟨rfl, rfl⟩)
    go_ret
    rw [h00]
    exact ⟨none, 0, rfl, Grew.of_below hb, Or.inl rfl⟩
  · have hH : Go.Sort.Holds (Value.int .i64) w2 g 0 l.toArray := holds_of_blockI hgb (by simpa [iV] using r4)
    have hgl : g < w2.heap.size := (Array.getElem?_eq_some_iff.1 hgb).1
    have HS := Lib.hid (Try.slices_Sort_int g 0 cap l w2 hH hgl (by omega))
    have HO : Hid (∀ n os, (Go.Sort.grow (Go.Sort.putRow (Value.int .i64) (Go.Sort.ahead w2 n) g 0 (sortI l).toArray) os).ownsRow w.heap.size 3 1 (.slice (some ⟨g, 0, none⟩) l.length cap) l.length (iV (sortI l))) := Lib.hid fun n os => ownsRow_sortedI (ts := sortI l) hl hbase hgb r1 r2 r3
    have HG : Hid (∀ n os, Grew w (Go.Sort.grow (Go.Sort.putRow (Value.int .i64) (Go.Sort.ahead w2 n) g 0 (sortI l).toArray) os)) := Lib.hid fun n os => Grew.of_below (hb.grown (grownBy_sortedI _) hb.size (fun j hj => by cases hj; exact hbase))
    clear HC hrow hH hgl hbase hgb r1 r2 r3 r4 hb
    go_wp2_with (go_at_call 28; refine HS.out.mono ?_; rintro e w' ⟨rfl, n, os, rfl⟩)
    go_ret
    refine ⟨some ⟨g, 0, none⟩, cap, by rw [hl]; rfl, HG.out _ _, ?_⟩
    have h := HO.out n os
    rw [← hl] at h
    exact own_rowI h
def BelAt (w : World) (l : List Int) (n : Int) (c i : Value) (wr : World) : Prop := ∃ j : Nat, j ≤ l.length ∧ i = .int .i64 j ∧ c = .int .i64 (belowN (l.take j) n) ∧ Grew w wr
theorem below_any (l : List Int) (hl : l.length ≤ 1000000) (A : Option Addr) (k : Nat) (n : Int) (w : World) (ra : Row w A (iV l)) : Gives Try.prog 18 #[.slice A l.length k, .int .i64 n] w (.int .i64 (belowN l n)) := by
  have RA := Lib.hid ra
  have HG0 : Hid (Grew w w) := Lib.hid (Grew.refl w)
  clear ra
  unfold Gives
  go_enter Try.func18, Try.ntmps18
  go_wp2
  go_loopw [5, 10] (fun c i wr => BelAt w l n c i wr) (fun _ i _ => l.length - (intOf i).toNat)
  case atStart => exact ⟨0, Nat.zero_le _, rfl, by simp [belowN], HG0.out⟩
  case round =>
    obtain ⟨j, hj, rfl, rfl, hg⟩ := hrel
    have HG := Lib.hid hg
    clear hg
    by_cases h : j < l.length
    · obtain ⟨b, o, rfl, hb, hc⟩ := rowI_at (RA.out.grew HG.out) h
      have HS := Lib.hid (belowN_succ h n)
      have hcl : belowN (l.take j) n ≤ 1000000 := by
        have h1 := belowN_le (l.take j) n
        rw [List.length_take] at h1
        omega
      by_cases hx : l[j] < n
      · have HK : Hid (BelAt w l n (.int .i64 ((belowN (l.take j) n : Int) + 1)) (.int .i64 ((j : Int) + 1)) wr) := Lib.hid ⟨j + 1, by omega, by go_num, by rw [HS.out, if_pos hx]; go_num, HG.out⟩
        clear HS
        generalize belowN (l.take j) n = c at *
        generalize l[j] = x at *
        go_wp2
        exact ⟨HK.out, by simp only [intOf]; omega⟩
      · have HK : Hid (BelAt w l n (.int .i64 (belowN (l.take j) n : Int)) (.int .i64 ((j : Int) + 1)) wr) := Lib.hid ⟨j + 1, by omega, by go_num, by rw [HS.out, if_neg hx]; rfl, HG.out⟩
        have hx' : n ≤ l[j] := by omega
        clear HS hx
        generalize belowN (l.take j) n = c at *
        generalize l[j] = x at *
        go_wp2
        exact ⟨HK.out, by simp only [intOf]; omega⟩
    · obtain rfl : j = l.length := by omega
      rw [List.take_length]
      go_wp2
      go_ret
      exact ⟨rfl, HG.out⟩
theorem rbelow_any (l : List Int) (hl : l.length ≤ 1000000) (A : Option Addr) (k : Nat) (n : Int) (w : World) (ra : Row w A (iV l)) : Gives Try.prog 19 #[.slice A l.length k, .int .i64 n] w (.int .i64 (belowN l n)) := by
  have RA := Lib.hid ra
  have HG0 : Hid (Grew w w) := Lib.hid (Grew.refl w)
  clear ra
  unfold Gives
  go_enter Try.func19, Try.ntmps19
  go_wp2
  go_loopw [5, 6] (fun c i wr => BelAt w l n c i wr) (fun _ i _ => l.length - (intOf i).toNat)
  case atStart => exact ⟨0, Nat.zero_le _, rfl, by simp [belowN], HG0.out⟩
  case round =>
    obtain ⟨j, hj, rfl, rfl, hg⟩ := hrel
    have HG := Lib.hid hg
    clear hg
    by_cases h : j < l.length
    · obtain ⟨b, o, rfl, hb, hc⟩ := rowI_at (RA.out.grew HG.out) h
      have HS := Lib.hid (belowN_succ h n)
      have hcl : belowN (l.take j) n ≤ 1000000 := by
        have h1 := belowN_le (l.take j) n
        rw [List.length_take] at h1
        omega
      by_cases hx : l[j] < n
      · have HK : Hid (BelAt w l n (.int .i64 ((belowN (l.take j) n : Int) + 1)) (.int .i64 ((j : Int) + 1)) wr) := Lib.hid ⟨j + 1, by omega, by go_num, by rw [HS.out, if_pos hx]; go_num, HG.out⟩
        clear HS
        generalize belowN (l.take j) n = c at *
        generalize l[j] = x at *
        go_wp2
        exact ⟨HK.out, by simp only [intOf]; omega⟩
      · have HK : Hid (BelAt w l n (.int .i64 (belowN (l.take j) n : Int)) (.int .i64 ((j : Int) + 1)) wr) := Lib.hid ⟨j + 1, by omega, by go_num, by rw [HS.out, if_neg hx]; rfl, HG.out⟩
        have hx' : n ≤ l[j] := by omega
        clear HS hx
        generalize belowN (l.take j) n = c at *
        generalize l[j] = x at *
        go_wp2
        exact ⟨HK.out, by simp only [intOf]; omega⟩
    · obtain rfl : j = l.length := by omega
      rw [List.take_length]
      go_wp2
      go_ret
      exact ⟨rfl, HG.out⟩
end Go.Proofs.Ytdohfbpjmnhhmaa
