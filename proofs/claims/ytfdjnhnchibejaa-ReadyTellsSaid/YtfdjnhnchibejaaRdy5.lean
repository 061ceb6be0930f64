/- Layer 33: the bound on batches, by the program and by the document. Condition: no more than twenty pipes. -/
import Derived.Test.YtfdjnhnchibejaaRdy4
import Derived.Test.YtfdjnhnchibejaaSat
namespace Go.Proofs.Ytfdjnhnchibejaa
open Go.RowKit
attribute [local go_sem] more_cell more_frozen more_more more_setCell more_of_drew more_of_drewN lt_more le_more past_cell past_cell2 past_frozen past_frozen2 past_setCell past_setCell2 mid_cell mid_frozen mid_setCell
attribute [local go_sem ↓] Go.wp_at_zero Go.wp_at_succ

def bndS (per : List Int) (b : Int) : Nat → Int
  | 0 => 0
  | k + 1 => plusI (bndS per b k) (cutI (batI (per.getD k 0) b))
theorem bndS_s (per : List Int) (b : Int) (k : Nat) : sI (bndS per b k) := by
  induction k with
  | zero => exact ⟨Int.le_refl _, by show (0 : Int) ≤ _; omega⟩
  | succ k ih => exact plusI_s ih (cutI_s _)
theorem bat_le {r b : Int} (hr : 0 ≤ r) (hb : 1 ≤ b) : 0 ≤ batI r b ∧ batI r b ≤ 1 + r / b := by
  unfold batI
  have h0 : 0 ≤ r / b := Int.ediv_nonneg hr (by omega)
  split
  · omega
  · rw [if_neg (by omega)]
    have h1 : (r - 1) / b ≤ r / b := Int.ediv_le_ediv (by omega) (by omega)
    have h2 : 0 ≤ (r - 1) / b := Int.ediv_nonneg (by omega) (by omega)
    omega
theorem ediv_two {a c b : Int} (hb : 1 ≤ b) : a / b + c / b ≤ (a + c) / b := by
  rw [Int.le_ediv_iff_mul_le (by omega), Int.add_mul]
  have := Int.ediv_mul_le a (b := b) (by omega)
  have := Int.ediv_mul_le c (b := b) (by omega)
  omega
def sumI (l : List Int) : Int := l.foldl (fun a x => a + x) 0
theorem sumI_snoc (l : List Int) (x : Int) : sumI (l ++ [x]) = sumI l + x := by
  unfold sumI
  rw [List.foldl_append]
  rfl
theorem sumI_take (l : List Int) (k : Nat) : sumI (l.take (k + 1)) = sumI (l.take k) + l.getD k 0 := by
  by_cases h : k < l.length
  · rw [List.take_succ_eq_append_getElem h, sumI_snoc, List.getD_eq_getElem?_getD, List.getElem?_eq_getElem h]
    rfl
  · rw [List.take_of_length_le (by omega), List.take_of_length_le (by omega), List.getD_eq_getElem?_getD, List.getElem?_eq_none (by omega)]
    exact (Int.add_zero _).symm
theorem getD_nonneg {l : List Int} (h : ∀ x ∈ l, 0 ≤ x) (k : Nat) : 0 ≤ l.getD k 0 := by
  rw [List.getD_eq_getElem?_getD]
  cases hk : l[k]? with
  | none => exact Int.le_refl _
  | some x => exact h x (List.mem_of_getElem? hk)
theorem sumI_mono {l : List Int} (h : ∀ x ∈ l, 0 ≤ x) (k : Nat) : 0 ≤ sumI (l.take k) ∧ sumI (l.take k) ≤ sumI l := by
  have h1 : ∀ k, 0 ≤ sumI (l.take k) := fun k => by
    induction k with
    | zero => exact Int.le_refl _
    | succ k ih => rw [sumI_take]; have := getD_nonneg h k; omega
  refine ⟨h1 k, ?_⟩
  have h2 : ∀ m, sumI (l.take k) ≤ sumI (l.take (k + m)) := fun m => by
    induction m with
    | zero => exact Int.le_refl _
    | succ m ih => rw [← Nat.add_assoc, sumI_take]; have := getD_nonneg h (k + m); omega
  have := h2 l.length
  rwa [List.take_of_length_le (by omega : l.length ≤ k + l.length)] at this
theorem bndS_le {per : List Int} {b : Int} (hb : 1 ≤ b) (h : ∀ x ∈ per, 0 ≤ x) (n : Nat) : bndS per b n ≤ n + sumI per / b := by
  have h1 : ∀ k : Nat, bndS per b k ≤ k + sumI (per.take k) / b := fun k => by
    induction k with
    | zero =>
      show (0 : Int) ≤ (0 : Nat) + sumI (per.take 0) / b
      have : sumI (per.take 0) = 0 := rfl
      rw [this, Int.zero_ediv]
      omega
    | succ k ih =>
      have hg := getD_nonneg h k
      obtain ⟨b0, b1⟩ := bat_le hg hb
      have h2 := ediv_two (a := sumI (per.take k)) (c := per.getD k 0) hb
      rw [sumI_take]
      show plusI (bndS per b k) (cutI (batI (per.getD k 0) b)) ≤ _
      have h3 : cutI (batI (per.getD k 0) b) ≤ batI (per.getD k 0) b := by unfold cutI; split <;> (try split) <;> omega
      have h4 : plusI (bndS per b k) (cutI (batI (per.getD k 0) b)) ≤ bndS per b k + cutI (batI (per.getD k 0) b) := by unfold plusI; split <;> omega
      generalize sumI (per.take k) = s at *
      generalize per.getD k 0 = r at *
      generalize batI r b = u at *
      generalize cutI u = v at *
      generalize (s + r) / b = q1 at *
      generalize s / b = q2 at *
      generalize r / b = q3 at *
      omega
  have h2 := (sumI_mono h n).2
  have h3 : sumI (per.take n) / b ≤ sumI per / b := Int.ediv_le_ediv (by omega) h2
  have := h1 n
  omega
theorem iV_wf {l : List Int} (h : ∀ x ∈ l, wfI x) (k : Nat) : wfI (l.getD k 0) := by
  rw [List.getD_eq_getElem?_getD]
  cases hk : l[k]? with
  | none => exact wfI_nat (n := 0) (by omega)
  | some x => exact h x (List.mem_of_getElem? hk)
def BndAt (w : World) (per : List Int) (b : Int) (n : Nat) (a i : Value) (wr : World) : Prop := ∃ k : Nat, k ≤ n ∧ i = .int .i64 k ∧ a = .int .i64 (bndS per b k) ∧ Grew w wr
theorem rbound33_any (o : Oth) (n : Nat) (hn : n ≤ 20) (per : List Int) (A' : Option Addr) (c : Nat) (hwf : ∀ x ∈ per, wfI x) (b : Int) (hb : wfI b) (A : Option Addr) (k : Nat) (w : World) (rp : Row w A' (iV per)) :
    Gives Try.prog 108 #[plV o A n k, .slice A' per.length c, .int .i64 b] w (.int .i64 (bndS per b n)) := by
  have RP := Lib.hid rp
  have HWf := Lib.hid (iV_wf hwf)
  have HWb := Lib.hid hb
  clear rp hwf hb
  obtain ⟨fin, hfin⟩ : ∃ fin, bndS per b n = fin := ⟨_, rfl⟩
  rw [hfin]
  have HFin := Lib.hid hfin
  clear hfin
  unfold Gives
  unfold plV at *
  have HB0 : Hid (Blok (w.alloc (.cells (plC o A n k) 117)) w.heap.size 117 (plC o A n k)) := Lib.hid (Blok.new _ _ _ _ rfl)
  have HG0 : Hid (Grew w (w.alloc (.cells (plC o A n k) 117))) := Lib.hid ((Grew.refl w).alloc _)
  go_enter Try.func108, Try.ntmps108
  go_upto_region 1 with fail
  obtain ⟨w1, hw1⟩ : ∃ w1, w1 = w.alloc (.cells (plC o A n k) 117) := ⟨_, rfl⟩
  rw [← hw1] at HB0 HG0 ⊢
  clear hw1
  generalize w.heap.size = g at *
  go_wp2
  go_loopw [7, 8] (fun a i wr => BndAt w1 per b n a i wr) (fun _ i _ => n - (intOf i).toNat)
  case atStart => exact ⟨0, Nat.zero_le _, rfl, rfl, Grew.refl _⟩
  case round =>
    obtain ⟨j, hj, rfl, rfl, hg⟩ := hrel
    obtain ⟨b0, _, _, b1, _, _, _⟩ := boxP (HB0.out.grew hg)
    have HG := Lib.hid hg
    clear hg
    have hs := bndS_s per b j
    obtain ⟨y, hy⟩ : ∃ y, bndS per b (j + 1) = y := ⟨_, rfl⟩
    have HS1 : Hid (plusI (cutI (bndS per b j)) (cutI (batI (per.getD j 0) b)) = y) := Lib.hid (by rw [← hy, cutI_self hs]; rfl)
    have HY := Lib.hid hy
    clear hy
    have HFj : Hid (j = n → bndS per b j = fin) := Lib.hid fun e => by rw [e]; exact HFin.out
    have hwj := Lib.hid (HWf.out j)
    generalize bndS per b j = x at *
    by_cases h1 : j < n
    · by_cases h2 : j < per.length
      · obtain ⟨b2, o2, rfl, hb2, hc2⟩ := rowI_at (RP.out.grew (HG0.out.trans HG.out)) h2
        have e2 : per.getD j 0 = per[j] := by rw [List.getD_eq_getElem?_getD, List.getElem?_eq_getElem h2]; rfl
        rw [e2] at HS1 hwj
        generalize per[j] = r at *
        clear e2
        go_wp2_with (first | (go_at_call 107; (with_reducible refine (Gives.grows (rbat33_any _ _ hwj.out HWb.out _)).mono ?_); rintro e w6 ⟨rfl, hg6⟩; have HG6 := Lib.hid (HG.out.trans hg6); clear hg6) | (go_at_call 174; (with_reducible refine (rplus_any _ _ _).mono ?_); rintro e w6 ⟨rfl, rfl⟩))
        exact ⟨⟨j + 1, by omega, by go_num, by rw [HS1.out, HY.out], HG6.out⟩, by simp only [intOf]; omega⟩
      · have e2 : per.getD j 0 = 0 := by rw [List.getD_eq_getElem?_getD, List.getElem?_eq_none (by omega)]; rfl
        rw [e2] at HS1 hwj
        clear e2
        go_wp2_with (first | (go_at_call 107; (with_reducible refine (Gives.grows (rbat33_any _ _ hwj.out HWb.out _)).mono ?_); rintro e w6 ⟨rfl, hg6⟩; have HG6 := Lib.hid (HG.out.trans hg6); clear hg6) | (go_at_call 174; (with_reducible refine (rplus_any _ _ _).mono ?_); rintro e w6 ⟨rfl, rfl⟩))
        exact ⟨⟨j + 1, by omega, by go_num, by rw [HS1.out, HY.out], HG6.out⟩, by simp only [intOf]; omega⟩
    · obtain rfl : j = n := by omega
      obtain rfl := HFj.out rfl
      clear HFin HFj
      go_wp2
      go_ret
      exact ⟨rfl, HG0.out.trans HG.out⟩
theorem add2_any (x y : Int) (hx : sI x) (w : World) : Calls Try.prog 173 #[.slice (some ⟨w.heap.size, 0, none⟩) 2 2] (w.alloc (.cells #[.int .i64 x, .int .i64 y] 3)) fun e w' => e = .returned (.int .i64 (plusI x (cutI y))) ∧ w' = w.alloc (.cells #[.int .i64 x, .int .i64 y] 3) := by
  have h := add_any [x, y] (some ⟨w.heap.size, 0, none⟩) 2 (by simp) _ (row_new w 3 w.heap.size #[.int .i64 x, .int .i64 y] rfl)
  have e : foldP [x, y] 0 = plusI x (cutI y) := by
    show plusI (plusI 0 (cutI x)) (cutI y) = _
    rw [cutI_self hx]
    have : plusI 0 x = x := by unfold sI at hx; unfold plusI; rw [if_neg (by omega)]; omega
    rw [this]
  rw [e] at h
  exact h
theorem bound33_any (o : Oth) (n : Nat) (hn : n ≤ 20) (per : List Int) (A' : Option Addr) (c : Nat) (hwf : ∀ x ∈ per, wfI x) (b : Int) (hb : wfI b) (A : Option Addr) (k : Nat) (w : World) (rp : Row w A' (iV per)) :
    Gives Try.prog 105 #[plV o A n k, .slice A' per.length c, .int .i64 b] w (.int .i64 (bndS per b n)) := by
  have RP := Lib.hid rp
  have HWf := Lib.hid (iV_wf hwf)
  have HWb := Lib.hid hb
  clear rp hwf hb
  obtain ⟨fin, hfin⟩ : ∃ fin, bndS per b n = fin := ⟨_, rfl⟩
  rw [hfin]
  have HFin := Lib.hid hfin
  clear hfin
  unfold Gives
  unfold plV at *
  have HB0 : Hid (Blok (w.alloc (.cells (plC o A n k) 117)) w.heap.size 117 (plC o A n k)) := Lib.hid (Blok.new _ _ _ _ rfl)
  have HG0 : Hid (Grew w (w.alloc (.cells (plC o A n k) 117))) := Lib.hid ((Grew.refl w).alloc _)
  go_enter Try.func105, Try.ntmps105
  go_upto_region 1 with fail
  obtain ⟨w1, hw1⟩ : ∃ w1, w1 = w.alloc (.cells (plC o A n k) 117) := ⟨_, rfl⟩
  rw [← hw1] at HB0 HG0 ⊢
  clear hw1
  generalize w.heap.size = g at *
  obtain ⟨b0, d0, d1, b1, d3, d4, d5⟩ := boxP HB0.out
  go_wp2
  clear b0 d0 d1 b1 d3 d4 d5
  go_loopw [7, 13] (fun a i wr => BndAt w1 per b n a i wr) (fun _ i _ => n - (intOf i).toNat)
  case atStart => exact ⟨0, Nat.zero_le _, rfl, rfl, Grew.refl _⟩
  case round =>
    obtain ⟨j, hj, rfl, rfl, hg⟩ := hrel
    have HG := Lib.hid hg
    clear hg
    have hs := bndS_s per b j
    have HS0 := Lib.hid hs
    obtain ⟨y, hy⟩ : ∃ y, bndS per b (j + 1) = y := ⟨_, rfl⟩
    have HS1 : Hid (plusI (bndS per b j) (cutI (batI (per.getD j 0) b)) = y) := Lib.hid (by rw [← hy]; rfl)
    have HY := Lib.hid hy
    clear hy
    have HFj : Hid (j = n → bndS per b j = fin) := Lib.hid fun e => by rw [e]; exact HFin.out
    have hwj := Lib.hid (HWf.out j)
    generalize bndS per b j = x at *
    by_cases h1 : j < n
    · by_cases h2 : j < per.length
      · obtain ⟨b2, o2, rfl, hb2, hc2⟩ := rowI_at (RP.out.grew (HG0.out.trans HG.out)) h2
        have e2 : per.getD j 0 = per[j] := by rw [List.getD_eq_getElem?_getD, List.getElem?_eq_getElem h2]; rfl
        rw [e2] at HS1 hwj
        generalize per[j] = r at *
        clear e2
        go_wp2_with (first | (go_at_call 106; (with_reducible refine (Gives.grows (bat33_any _ _ hwj.out HWb.out _)).mono ?_); rintro e w6 ⟨rfl, hg6⟩; have HG6 := Lib.hid ((HG.out.trans hg6).alloc (.cells #[.int .i64 x, .int .i64 (batI r b)] 3)); clear hg6) | (go_at_call 173; (with_reducible refine (add2_any _ _ HS0.out _).mono ?_); rintro e w7 ⟨rfl, rfl⟩))
        exact ⟨⟨j + 1, by omega, by go_num, by rw [HS1.out, HY.out], HG6.out⟩, by simp only [intOf]; omega⟩
      · have e2 : per.getD j 0 = 0 := by rw [List.getD_eq_getElem?_getD, List.getElem?_eq_none (by omega)]; rfl
        rw [e2] at HS1 hwj
        clear e2
        go_wp2_with (first | (go_at_call 106; (with_reducible refine (Gives.grows (bat33_any _ _ hwj.out HWb.out _)).mono ?_); rintro e w6 ⟨rfl, hg6⟩; have HG6 := Lib.hid ((HG.out.trans hg6).alloc (.cells #[.int .i64 x, .int .i64 (batI 0 b)] 3)); clear hg6) | (go_at_call 173; (with_reducible refine (add2_any _ _ HS0.out _).mono ?_); rintro e w7 ⟨rfl, rfl⟩))
        exact ⟨⟨j + 1, by omega, by go_num, by rw [HS1.out, HY.out], HG6.out⟩, by simp only [intOf]; omega⟩
    · obtain rfl : j = n := by omega
      obtain rfl := HFj.out rfl
      clear HFin HFj
      go_wp2
      go_ret
      exact ⟨rfl, HG0.out.trans HG.out⟩
end Go.Proofs.Ytfdjnhnchibejaa
