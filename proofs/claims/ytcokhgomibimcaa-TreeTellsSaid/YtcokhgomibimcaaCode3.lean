/- Layer 39: many numbers put behind bytes. Condition: not more than some thousands of numbers. -/
import Derived.Test.YtcokhgomibimcaaCode2
namespace Go.Proofs.Ytcokhgomibimcaa
open Go.RowKit
attribute [local go_sem] more_cell more_frozen more_more more_setCell more_of_drew more_of_drewN lt_more le_more past_cell past_cell2 past_frozen past_frozen2 past_setCell past_setCell2 mid_cell mid_frozen mid_setCell
attribute [local go_sem ↓] Go.wp_at_zero Go.wp_at_succ

/-- Numbers that lie in memory. -/
def NRow (w : World) (A : Option Addr) (l : List Int) : Prop := Row w A (l.map (Value.int .i64))
theorem NRow.grew {w w' : World} {A : Option Addr} {l : List Int} (h : NRow w A l) (g : Grew w w') : NRow w' A l := Row.grew h g
theorem nrow_some {w : World} {A : Option Addr} {l : List Int} {j : Nat} (h : NRow w A l) (hj : j < l.length) : ∃ b o, A = some ⟨b, o, none⟩ := by
  rcases h with h1 | ⟨b, o, hA, _⟩
  · rw [List.map_eq_nil_iff] at h1
    subst h1
    simp at hj
  · exact ⟨b, o, hA⟩
theorem nrow_cell {w : World} {b o i : Nat} {x : Int} {l : List Int} (h : NRow w (some ⟨b, o, none⟩) l) (hi : i < l.length) (hx : l[i] = x) : b < w.heap.size ∧ w.cell? ⟨b, o + i, none⟩ = some (.int .i64 x) := by
  subst hx
  rcases h with h | ⟨b', o', hA, hb, hc⟩
  · rw [List.map_eq_nil_iff] at h
    subst h
    simp at hi
  · injection hA with hA
    injection hA with e1 e2 _
    subst e1 e2
    exact ⟨hb, hc i _ (by simp [hi])⟩
def smallI (l : List Int) : Prop := ∀ n ∈ l, -9223372036854775808 ≤ n ∧ n ≤ 9223372036854775807
/-- The bytes of the first j numbers, behind how many there are. -/
def vbT (l : List Int) (j : Nat) : List Nat := vb (zz l.length) ++ ((l.take j).map fun n => vb (zz n)).flatten
theorem vbT_zero (l : List Int) : vbT l 0 = vb (zz l.length) := by unfold vbT; simp
theorem vbT_succ (l : List Int) (j : Nat) (h : j < l.length) : vbT l (j + 1) = vbT l j ++ vb (zz l[j]) := by
  unfold vbT
  rw [List.take_succ_eq_append_getElem h, List.map_append, List.flatten_append, List.append_assoc]
  simp
theorem vbT_all (l : List Int) : vbT l l.length = vbs l := by unfold vbT vbs; rw [List.take_length]
theorem vbT_len (l : List Int) (j : Nat) (h : j ≤ l.length) : (vbT l j).length ≤ 10 * (j + 1) := by
  induction j with
  | zero => rw [vbT_zero]; have := vb_len (zz l.length); omega
  | succ j ih =>
    rw [vbT_succ l j (by omega), List.length_append]
    have := ih (by omega)
    have := vb_len (zz l[j])
    omega
def PutsAt (u : World) (bs : List Nat) (l : List Int) (v i : Value) (wr : World) : Prop :=
  ∃ (j : Nat) (A : Option Addr) (c : Nat), j ≤ l.length ∧ i = .int .i64 j ∧ v = .slice A (bs ++ vbT l j).length c ∧ wr.ownsRow u.heap.size 5 1 (.slice A (bs ++ vbT l j).length c) (bs ++ vbT l j).length (bV (bs ++ vbT l j)) ∧ Grew u wr
set_option maxRecDepth 100000 in
theorem puts_any (u : World) (bs : List Nat) (A : Option Addr) (c : Nat) (l : List Int) (L : Option Addr) (d : Nat) (hl : bs.length ≤ 100000) (hll : l.length ≤ 10000) (hs : smallI l) (w : World) (ho : w.ownsRow u.heap.size 5 1 (.slice A bs.length c) bs.length (bV bs)) (hg : Grew u w) (hr : NRow u L l) :
    Calls Try.prog 97 #[.slice A bs.length c, .slice L l.length d] w (PutF u (bs ++ vbs l)) := by
  have HO := Lib.hid ho
  have HG := Lib.hid hg
  have HR := Lib.hid hr
  have HS := Lib.hid hs
  clear ho hg hr hs
  go_enter Try.func97, Try.ntmps97
  go_wp2_with fail
  refine (put_any u bs A c l.length (by omega) (by omega) (by omega) _ HO.out HG.out).mono ?_
  rintro e w1 ⟨A1, c1, rfl, ho1, hg1⟩
  have HO1 := Lib.hid ho1
  have HG1 := Lib.hid hg1
  clear ho1 hg1
  go_wp2_with fail
  go_loopw [0, 13] (fun v i wr => PutsAt u bs l v i wr) (fun _ i _ => l.length - (intOf i).toNat)
  case atStart => exact ⟨0, A1, c1, Nat.zero_le _, rfl, by rw [vbT_zero, List.length_append], by rw [vbT_zero]; exact HO1.out, HG1.out⟩
  case round =>
    obtain ⟨j, A2, c2, hj, rfl, rfl, ho, hg⟩ := hrel
    have HO := Lib.hid ho
    have HG := Lib.hid hg
    clear ho hg
    have hlen : (bs ++ vbT l j).length ≤ 1000000 := by rw [List.length_append]; have := vbT_len l j hj; omega
    by_cases h : j < l.length
    · obtain ⟨b, o, rfl⟩ := nrow_some HR.out h
      obtain ⟨hb, c0⟩ := nrow_cell (HR.out.grew HG.out) h rfl
      have HT := Lib.hid (vbT_succ l j h)
      have hx := HS.out l[j] (List.getElem_mem h)
      generalize l[j] = x at *
      have HP : Hid (∀ W, W.ownsRow u.heap.size 5 1 (.slice A2 (bs ++ vbT l j).length c2) (bs ++ vbT l j).length (bV (bs ++ vbT l j)) → Grew u W → Calls Try.prog 95 #[.slice A2 (bs ++ vbT l j).length c2, .int .i64 x] W (PutF u (bs ++ vbT l (j + 1)))) := Lib.hid fun W h3 h4 => by
        rw [HT.out, ← List.append_assoc]
        exact put_any u _ A2 c2 x hx.1 hx.2 hlen W h3 h4
      clear hx
      generalize bs ++ vbT l j = cur at *
      go_wp2_with (go_at_call 95; refine (HP.out _ HO.out HG.out).mono ?_; rintro e w3 ⟨A3, c3, rfl, ho3, hg3⟩; have HO3 := Lib.hid ho3; have HG3 := Lib.hid hg3; clear ho3 hg3)
      refine ⟨⟨j + 1, A3, c3, by omega, by go_num, by rw [List.length_append], HO3.out, HG3.out⟩, by simp only [intOf]; omega⟩
    · obtain rfl : j = l.length := by omega
      have HF : Hid (PutF u (bs ++ vbs l) (.returned (.slice A2 (bs ++ vbT l l.length).length c2)) wr) := Lib.hid (by rw [← vbT_all l]; exact ⟨A2, c2, rfl, HO.out, HG.out⟩)
      generalize bs ++ vbT l l.length = cur at *
      go_wp2
      go_ret
      exact HF.out
def RIntsAt (u : World) (l : List Int) (v i : Value) (wr : World) : Prop :=
  ∃ (j n : Nat) (A : Option Addr) (c : Nat), j ≤ l.length ∧ i = .int .i64 j ∧ n = (vbT l j).length ∧ v = .slice A n c ∧ wr.ownsRow u.heap.size 5 1 (.slice A n c) n (bV (vbT l j)) ∧ Grew u wr
theorem put_row {w : World} {base n c : Nat} {A : Option Addr} {bs : List Nat} (h : w.ownsRow base 5 1 (.slice A n c) n (bV bs)) : Row w A (bV bs) := by
  obtain ⟨A', c', h1, h2⟩ := own_row h
  injection h1 with h1 _ _
  subst h1
  exact h2
theorem own_grew {w w' : World} {base : Nat} {e : TypeId} {size : Nat} {v : Value} {n : Nat} {xs : List Value} (h : w.ownsRow base e size v n xs) (g : Grew w w') : w'.ownsRow base e size v n xs := by
  obtain ⟨x, rfl⟩ := g
  exact own_more h x
set_option maxRecDepth 100000 in
theorem rints_any (l : List Int) (L : Option Addr) (d : Nat) (hll : l.length ≤ 10000) (hs : smallI l) (w : World) (hr : NRow w L l) :
    Calls Try.prog 19 #[.slice L l.length d] w (PutF w (vbs l)) := by
  have HR := Lib.hid hr
  have HS := Lib.hid hs
  clear hr hs
  go_enter Try.func19, Try.ntmps19
  go_wp2_with fail
  refine (rint_any l.length (by omega) (by omega) _).mono ?_
  rintro e w1 ⟨A1, c1, rfl, ho1, hg1⟩
  have HO1 := Lib.hid ho1
  have HG1 := Lib.hid hg1
  clear ho1 hg1
  go_wp2_with fail
  go_loopw [3, 4] (fun v i wr => RIntsAt w l v i wr) (fun _ i _ => l.length - (intOf i).toNat)
  case atStart => exact ⟨0, _, A1, c1, Nat.zero_le _, rfl, by rw [vbT_zero], rfl, by rw [vbT_zero]; exact HO1.out, HG1.out⟩
  case round =>
    obtain ⟨j, n, A2, c2, hj, rfl, hn, rfl, ho, hg⟩ := hrel
    have HO := Lib.hid ho
    have HG := Lib.hid hg
    have hlen : n ≤ 200000 := by rw [hn]; have := vbT_len l j hj; omega
    have HN := Lib.hid hn
    clear ho hg hn
    by_cases h : j < l.length
    · obtain ⟨b, o, rfl⟩ := nrow_some HR.out h
      obtain ⟨hb, c0⟩ := nrow_cell (HR.out.grew HG.out) h rfl
      have HT := Lib.hid (vbT_succ l j h)
      have hx := HS.out l[j] (List.getElem_mem h)
      generalize l[j] = x at *
      have hv := vb_len (zz x)
      have HP : Hid (∀ W, Calls Try.prog 18 #[.int .i64 x] W (PutF W (vb (zz x)))) := Lib.hid fun W => rint_any x hx.1 hx.2 W
      clear hx
      generalize vb (zz x) = vx at *
      go_wp2_with (first | (go_at_call 18; refine (HP.out _).mono ?_; rintro e w3 ⟨A3, c3, rfl, ho3, hg3⟩; have HO3 := Lib.hid ho3; have HG3 := Lib.hid hg3; clear ho3 hg3; have HK := Lib.hid (own_grew HO.out HG3.out)) | (at_builtin; refine wpList_app rfl (.tmp 14) (.tmp 19) 22 5 rfl w (.int .u8 0) 1 Try.underlying22 infoB rfl (by decide) _ n (bV (vbT l j)) rfl HK.out A3 vx.length c3 (bV vx) rfl (by simp [bV]) (put_row HO3.out) (bV_one vx) (by omega) (HG.out.trans HG3.out) ?_; intro A4 c4 w4 ho4 _ hg4 _ _; have HO4 := Lib.hid ho4; have HG4 := Lib.hid hg4; clear ho4 hg4))
      refine ⟨⟨j + 1, n + vx.length, A4, c4, by omega, by go_num, by rw [HT.out, List.length_append, HN.out], rfl, by rw [HT.out, bV_append]; exact HO4.out, HG4.out⟩, by simp only [intOf]; omega⟩
    · obtain rfl : j = l.length := by omega
      have HF : Hid (PutF w (vbs l) (.returned (.slice A2 n c2)) wr) := Lib.hid (by rw [← vbT_all l]; have h2 := HN.out; subst h2; exact ⟨A2, c2, rfl, HO.out, HG.out⟩)
      go_wp2
      go_ret
      exact HF.out
end Go.Proofs.Ytcokhgomibimcaa
