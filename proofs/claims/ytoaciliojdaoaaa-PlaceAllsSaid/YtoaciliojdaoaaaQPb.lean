/- Layer 31: all filters that there may be, by the document; are two lists of filters the same. Condition: conditions that lie in memory that is there, no more than a thousand tables. -/
import Derived.Test.YtoaciliojdaoaaaQPa
import Derived.Deep.DeepCutAuto

/- Layer 31: the classes, a column's class, a table's column of a class: by the document. Condition: edges that lie in memory that is there, no more than three thousand. -/
namespace Go.Proofs.Ytoaciliojdaoaaa
open Go.RowKit
attribute [local go_sem] more_cell more_frozen more_more more_setCell more_of_drew more_of_drewN lt_more le_more past_cell past_cell2 past_frozen past_frozen2 past_setCell past_setCell2 mid_cell mid_frozen mid_setCell
attribute [local go_sem ↓] Go.wp_at_zero Go.wp_at_succ

theorem columnI_io (t c : Int) : columnI t c = -1 ∨ (0 ≤ columnI t c ∧ columnI t c < 128) := by
  unfold columnI
  split
  · right; omega
  · left; rfl
theorem clsE_least (l : List Ed) : Least 128 (clsE l) := by
  have : ∀ (l : List Ed) (r : Nat → Nat), Least 128 r → Least 128 (l.foldl (fun r e => joinI 128 r (columnI e.a e.ac) (columnI e.b e.bc)) r) := by
    intro l
    induction l with
    | nil => intro r h; exact h
    | cons e l ih => intro r h; exact ih _ (h.joinI _ _)
  exact this l id ⟨fun i _ => Nat.le_refl i, fun _ _ => rfl⟩
def Rc31 (u : World) (l : List Ed) (v i : Value) (wr : World) : Prop :=
  ∃ (q : Nat) (A : Option Addr) (c : Nat), q ≤ l.length ∧ i = .int .i64 q ∧ v = .slice A 128 c ∧ Grew u wr ∧ Row wr A (numsL 128 (clsE (l.take q)))
/-- The classes, in a row. -/
def RclF (w : World) (R : Nat → Nat) (e : Ending) (w' : World) : Prop := ∃ (A : Option Addr) (c : Nat), e = .returned (.slice A 128 c) ∧ Grew w w' ∧ Row w' A (numsL 128 R)
set_option maxHeartbeats 16000000 in
set_option maxRecDepth 100000 in
theorem rclasses31_any (core : Int) (l : List Ed) (A : Option Addr) (n k : Nat) (B : Option Addr) (j : Nat) (C : Option Addr) (p c : Nat) (D : Option Addr) (dn d : Nat) (E : Option Addr) (q e : Nat) (w : World)
    (h2 : EdsR (PRow w) B l) (he : l.length ≤ 3000) :
    Calls Try.prog 58 #[.agg (nqC core A n k B l.length j C p c D dn d E q e)] w (RclF w (clsE l)) := by
  have H2 := Lib.hid h2
  have HNew : Hid (∀ W, Calls Try.prog 80 #[.int .i64 128] W (Nums W none 128 id)) := Lib.hid fun W => rnew_any 128 (by omega) W
  have HJoin : Hid (∀ (x y : Int) (r : Nat → Nat) (R : Option Addr) (cr : Nat) (W : World), Row W R (numsL 128 r) → Calls Try.prog 81 #[.slice R 128 cr, .int .i64 x, .int .i64 y] W (Nums W R 128 (joinI 128 r x y))) := Lib.hid fun x y r R cr W hW => rjoin_any x y 128 cr r R W (by omega) hW
  obtain ⟨Rf, hRf⟩ : ∃ R, clsE l = R := ⟨_, rfl⟩
  have HLe : Hid (Least 128 Rf) := Lib.hid (by rw [← hRf]; exact clsE_least l)
  rw [hRf]
  have HRf := Lib.hid hRf
  clear h2 hRf
  unfold nqC
  go_enter Try.func58, Try.ntmps58
  go_upto_region 1 with fail
  have HB : Hid (Blok (w.alloc (.cells #[.int .i64 core, .slice A n k, .slice B l.length j, .slice C p c, .slice D dn d, .slice E q e] 37)) w.heap.size 37 #[.int .i64 core, .slice A n k, .slice B l.length j, .slice C p c, .slice D dn d, .slice E q e]) := Lib.hid (Blok.new _ _ _ _ rfl)
  have HG0 : Hid (Grew w (w.alloc (.cells #[.int .i64 core, .slice A n k, .slice B l.length j, .slice C p c, .slice D dn d, .slice E q e] 37))) := Lib.hid ((Grew.refl w).alloc _)
  generalize (w.alloc (.cells #[.int .i64 core, .slice A n k, .slice B l.length j, .slice C p c, .slice D dn d, .slice E q e] 37)) = W1 at *
  obtain ⟨bq, hbq⟩ : ∃ b, w.heap.size = b := ⟨_, rfl⟩
  rw [hbq] at HB ⊢
  clear hbq
  go_upto_region 2 with (go_at_call 80; (with_reducible refine (HNew.out _).mono ?_); rintro e2 w2 ⟨R0, c0, rfl, hg2, hr2, _⟩)
  have HG2 := Lib.hid hg2
  have HR2 := Lib.hid hr2
  clear hg2 hr2 HNew
  go_wp2_with fail
  go_loopw [3, 4] (fun v i wr => Rc31 W1 l v i wr) (fun _ i _ => l.length - (intOf i).toNat)
  case atStart => exact ⟨0, R0, c0, Nat.zero_le _, rfl, rfl, HG2.out, by rw [List.take_zero]; exact HR2.out⟩
  case round =>
    obtain ⟨i, R1, c1, hi, rfl, rfl, hg, hr⟩ := hrel
    have HG := Lib.hid hg
    have HR := Lib.hid hr
    obtain ⟨xl, x0, x1, x2, x3, x4, x5⟩ := nm_in (HB.out.grew hg)
    clear hr
    by_cases hlt : i < l.length
    · have HT := Lib.hid (clsE_take l i hlt)
      obtain ⟨b, o, rfl, hb0, a0, a1, a2, a3⟩ := edsR_at ((H2.out.grew HG0.out).grew hg) hlt
      clear hg
      generalize l[i] = y at *
      generalize clsE (l.take i) = r at *
      go_upto_region 6 with fail
      have HBe : Hid (Blok (wr.alloc (.cells #[.int .i64 y.a, .int .i64 y.ac, .int .i64 y.b, .int .i64 y.bc] 68)) wr.heap.size 68 #[.int .i64 y.a, .int .i64 y.ac, .int .i64 y.b, .int .i64 y.bc]) := Lib.hid (Blok.new _ _ _ _ rfl)
      have HGe : Hid (Grew wr (wr.alloc (.cells #[.int .i64 y.a, .int .i64 y.ac, .int .i64 y.b, .int .i64 y.bc] 68))) := Lib.hid ((Grew.refl wr).alloc _)
      clear hb0 a0 a1 a2 a3 xl x0 x1 x2 x3 x4 x5
      generalize (wr.alloc (.cells #[.int .i64 y.a, .int .i64 y.ac, .int .i64 y.b, .int .i64 y.bc] 68)) = W4 at *
      generalize wr.heap.size = be at *
      have HC1 : Hid (∀ W, Gives Try.prog 82 #[.int .i64 y.a, .int .i64 y.ac] W (.int .i64 (columnI y.a y.ac))) := Lib.hid fun W => rcolumn_any _ _ W
      have HC2 : Hid (∀ W, Gives Try.prog 82 #[.int .i64 y.b, .int .i64 y.bc] W (.int .i64 (columnI y.b y.bc))) := Lib.hid fun W => rcolumn_any _ _ W
      have HJ := Lib.hid (HJoin.out (columnI y.a y.ac) (columnI y.b y.bc) r R1 c1)
      generalize joinI 128 r (columnI y.a y.ac) (columnI y.b y.bc) = r' at *
      generalize columnI y.a y.ac = v1 at *
      generalize columnI y.b y.bc = v2 at *
      have hS0 : Grew W4 W4.drew := (Grew.refl W4).drew
      refine wp_region_S (fun W => Grew W4 W) (by kernel_rfl) ?_
      refine held_take 0 (v := ?_) rfl (by kernel_rfl) (by kernel_rfl) (by kernel_rfl) (fun _ _ _ h => h) (by rfl) ?_ hS0 ?_
      rotate_left
      · (intro W hW; obtain ⟨r0, d0, d1, d2, d3, _, _, _, _⟩ := ed_in (HBe.out.grew hW); go_simp; with_reducible rfl)
      refine held_take 1 (v := ?_) rfl (by kernel_rfl) (by kernel_rfl) (by kernel_rfl) (fun _ _ _ h => h) (by rfl) ?_ hS0 ?_
      rotate_left
      · (intro W hW; obtain ⟨r0, d0, d1, d2, d3, _, _, _, _⟩ := ed_in (HBe.out.grew hW); go_simp; with_reducible rfl)
      refine held_take 2 (v := ?_) rfl (by kernel_rfl) (by kernel_rfl) (by kernel_rfl) (fun _ _ _ h => h) (by rfl) ?_ hS0 ?_
      rotate_left
      · (intro W hW; obtain ⟨r0, d0, d1, d2, d3, _, _, _, _⟩ := ed_in (HBe.out.grew hW); go_simp; with_reducible rfl)
      refine held_take 3 (v := ?_) rfl (by kernel_rfl) (by kernel_rfl) (by kernel_rfl) (fun _ _ _ h => h) (by rfl) ?_ hS0 ?_
      rotate_left
      · (intro W hW; obtain ⟨r0, d0, d1, d2, d3, _, _, _, _⟩ := ed_in (HBe.out.grew hW); go_simp; with_reducible rfl)
      refine held_take 4 (v := ?_) rfl (by kernel_rfl) (by kernel_rfl) (by kernel_rfl) (fun _ _ _ h => h) (by rfl) ?_ hS0 ?_
      rotate_left
      · (intro W hW; obtain ⟨r0, d0, d1, d2, d3, _, _, _, _⟩ := ed_in (HBe.out.grew hW); go_simp; with_reducible rfl)
      refine held_take 6 (v := ?_) rfl (by kernel_rfl) (by kernel_rfl) (by kernel_rfl) (fun _ _ _ h => h) (by rfl) ?_ hS0 ?_
      rotate_left
      · (intro W hW; obtain ⟨r0, d0, d1, d2, d3, _, _, _, _⟩ := ed_in (HBe.out.grew hW); go_simp; with_reducible rfl)
      refine held_take 7 (v := ?_) rfl (by kernel_rfl) (by kernel_rfl) (by kernel_rfl) (fun _ _ _ h => h) (by rfl) ?_ hS0 ?_
      rotate_left
      · (intro W hW; obtain ⟨r0, d0, d1, d2, d3, _, _, _, _⟩ := ed_in (HBe.out.grew hW); go_simp; with_reducible rfl)
      refine held_take 8 (v := ?_) rfl (by kernel_rfl) (by kernel_rfl) (by kernel_rfl) (fun _ _ _ h => h) (by rfl) ?_ hS0 ?_
      rotate_left
      · (intro W hW; obtain ⟨r0, d0, d1, d2, d3, _, _, _, _⟩ := ed_in (HBe.out.grew hW); go_simp; with_reducible rfl)
      refine held_take 9 (v := ?_) rfl (by kernel_rfl) (by kernel_rfl) (by kernel_rfl) (fun _ _ _ h => h) (by rfl) ?_ hS0 ?_
      rotate_left
      · (intro W hW; obtain ⟨r0, d0, d1, d2, d3, _, _, _, _⟩ := ed_in (HBe.out.grew hW); go_simp; with_reducible rfl)
      refine held_norm (a' := ?_) ?_ ?_
      rotate_left
      · (go_simp; with_reducible rfl)
      refine held_call 5 (by kernel_rfl) rfl (by rfl) (fun K hK => ?_)
      go_simp
      go_wp2_with ((go_at_call 82; (with_reducible refine (HC1.out _).grows.mono ?_); rintro e5 w5 ⟨rfl, hg5⟩; have hS5 := hS0.trans hg5))
      refine hK.out _ _ hS5 ?_
      clear hK K
      refine held_call 10 (by kernel_rfl) rfl (by rfl) (fun K hK => ?_)
      go_simp
      go_wp2_with ((go_at_call 82; (with_reducible refine (HC2.out _).grows.mono ?_); rintro e6 w6 ⟨rfl, hg6⟩; have hS6 := hS5.trans hg6))
      refine hK.out _ _ hS6 ?_
      clear hK K
      refine held_call 11 (by kernel_rfl) rfl (by rfl) (fun K hK => ?_)
      go_simp
      go_wp2_with ((go_at_call 81; (with_reducible refine (HJ.out _ ((HR.out.grew HGe.out).grew hS6)).mono ?_); rintro e7 w7 ⟨R7, c7, rfl, hg7, hr7, _⟩; have hS7 := hS6.trans hg7))
      refine hK.out _ _ hS7 ?_
      clear hK K
      refine held_take 12 (v := ?_) rfl (by kernel_rfl) (by kernel_rfl) (by kernel_rfl) (fun _ _ _ h => h) (by rfl) ?_ hS7 ?_
      rotate_left
      · (intro W hW; go_simp; with_reducible rfl)
      refine held_norm (a' := ?_) ?_ ?_
      rotate_left
      · (go_simp; with_reducible rfl)
      refine held_done (by kernel_rfl) ?_
      have HG7 := Lib.hid ((HG.out.trans HGe.out).trans hS7)
      have HR7 := Lib.hid hr7
      clear hS7 hr7 hg7 hS6 hg6 hS5 hg5 hS0
      go_wp2
      exact ⟨⟨i + 1, R7, c7, by omega, by go_num, rfl, HG7.out, by rw [HT.out]; exact HR7.out⟩, by simp only [intOf]; omega⟩
    · obtain rfl : i = l.length := by omega
      rw [List.take_length, HRf.out] at HR
      go_wp2_with fail
      go_ret
      exact ⟨R1, c1, rfl, HG0.out.trans HG.out, HR.out⟩
set_option maxHeartbeats 4000000 in
theorem rclass31_any (t c : Int) (R : Nat → Nat) (A : Option Addr) (k : Nat) (w : World) (ra : Row w A (numsL 128 R)) :
    Gives Try.prog 79 #[.slice A 128 k, .int .i64 t, .int .i64 c] w (.int .i64 (clI R t c)) := by
  have HC : Hid (∀ W, Gives Try.prog 82 #[.int .i64 t, .int .i64 c] W (.int .i64 (columnI t c))) := Lib.hid fun W => rcolumn_any _ _ W
  obtain ⟨fin, hfin⟩ : ∃ fin, clI R t c = fin := ⟨_, rfl⟩
  rw [hfin]
  unfold clI findI at hfin
  have hio := columnI_io t c
  have HR := Lib.hid ra
  clear ra
  generalize columnI t c = x at *
  have HF := Lib.hid hfin
  clear hfin
  unfold Gives
  rcases hio with h | ⟨h0, h1⟩
  · have hf : fin = -1 := by rw [← HF.out, if_neg (by omega)]
    subst hf h
    go_enter Try.func79, Try.ntmps79
    go_wp2_with (go_at_call 82; (with_reducible refine (HC.out _).grows.mono ?_); rintro e5 w5 ⟨rfl, hg5⟩; have HG5 := Lib.hid hg5; clear hg5)
    go_ret
    exact ⟨rfl, HG5.out⟩
  · obtain ⟨m, rfl⟩ := Int.eq_ofNat_of_zero_le h0
    have hm : m < 128 := by omega
    have hf : fin = ((R m : Nat) : Int) := by rw [← HF.out, if_pos (by omega), Int.toNat_natCast]
    have e1 : decide ((m : Int) < 0) = false := decide_eq_false (by omega)
    subst hf
    obtain ⟨b, o, rfl, hb, hc⟩ := HR.out.nums hm
    have HRw : Hid (∀ W, Grew w W → b < W.heap.size ∧ W.cell? ⟨b, o + m, none⟩ = some (.int .i64 (R m))) := Lib.hid fun W hW => ⟨Nat.lt_of_lt_of_le hb hW.size, cell_keep hW hb hc⟩
    clear HR hb hc h1 h0
    go_enter Try.func79, Try.ntmps79
    go_upto_region 3 with (go_at_call 82; (with_reducible refine (HC.out _).grows.mono ?_); rintro e5 w5 ⟨rfl, hg5⟩; have HG5 := Lib.hid hg5; clear hg5)
    go_wp2_with (go_at_call 82; (with_reducible refine (HC.out _).grows.mono ?_); rintro e6 w6 ⟨rfl, hg6⟩; have HG6 := Lib.hid (HG5.out.trans hg6); clear hg6; obtain ⟨hb6, hc6⟩ := HRw.out _ HG6.out)
    go_ret
    exact ⟨rfl, HG6.out⟩
def RclAt (w : World) (R : Nat → Nat) (t k : Int) (i : Value) (wr : World) : Prop := ∃ q : Nat, q ≤ 16 ∧ i = .int .i64 q ∧ Grew w wr ∧ ∀ d : Nat, d < q → clI R t d ≠ k
set_option maxHeartbeats 4000000 in
theorem rcol31_any (t : Nat) (k : Int) (R : Nat → Nat) (X : Option Addr) (kx : Nat) (core : Int) (A : Option Addr) (n ka : Nat) (B : Option Addr) (m j : Nat) (C : Option Addr) (p c : Nat) (D : Option Addr) (ll d : Nat) (E : Option Addr) (qn en : Nat) (w : World) (ht : t < n) (rx : Row w X (numsL 128 R)) :
    Gives Try.prog 59 #[.slice X 128 kx, .agg (nqC core A n ka B m j C p c D ll d E qn en), .int .i64 t, .int .i64 k] w (.int .i64 (colF (clI R) t k)) := by
  have HC : Hid (∀ (c : Int) W, Grew w W → Gives Try.prog 79 #[.slice X 128 kx, .int .i64 t, .int .i64 c] W (.int .i64 (clI R t c))) := Lib.hid fun c W hW => rclass31_any t c R X kx W (rx.grew hW)
  clear rx
  obtain ⟨fin, hfin⟩ : ∃ fin, colF (clI R) t k = fin := ⟨_, rfl⟩
  rw [hfin]
  have HFi := Lib.hid hfin
  clear hfin
  obtain ⟨W0, hW0⟩ : ∃ W0, W0 = w.alloc (.cells (nqC core A n ka B m j C p c D ll d E qn en) 37) := ⟨_, rfl⟩
  have HG0 : Hid (Grew w W0) := Lib.hid (by rw [hW0]; exact (Grew.refl w).alloc _)
  have HX0 : Hid (Blok W0 w.heap.size 37 (nqC core A n ka B m j C p c D ll d E qn en)) := Lib.hid (by rw [hW0]; exact Blok.new _ _ _ _ rfl)
  have t1 : decide ((t : Int) < 0) = false := decide_eq_false (by omega)
  have t2 : decide ((n : Int) ≤ (t : Int)) = false := decide_eq_false (by omega)
  have t3 : ¬ (n : Int) ≤ (t : Int) := by omega
  unfold nqC at *
  unfold Gives
  clear ht
  by_cases hk : k < 0
  · have e1 : decide (k < (0 : Int)) = true := decide_eq_true hk
    have hf : fin = -1 := by rw [← HFi.out]; unfold colF; rw [if_pos hk]
    subst hf
    go_enter Try.func59, Try.ntmps59
    go_upto_region 1 with fail
    rw [← hW0]
    clear hW0
    obtain ⟨xl, x0, x1, x2, x3, x4, x5⟩ := nm_in HX0.out
    go_wp2
    go_ret
    exact ⟨rfl, HG0.out⟩
  · have e1 : decide (k < (0 : Int)) = false := decide_eq_false hk
    have HK := Lib.hid hk
    clear hk
    go_enter Try.func59, Try.ntmps59
    go_upto_region 1 with fail
    rw [← hW0]
    clear hW0
    obtain ⟨xl, x0, x1, x2, x3, x4, x5⟩ := nm_in HX0.out
    go_wp2_with fail
    clear xl x0 x1 x2 x3 x4 x5
    go_loopw [9] (fun i wr => RclAt w R t k i wr) (fun i _ => 16 - (intOf i).toNat)
    case atStart => exact ⟨0, by omega, rfl, HG0.out, fun d hd => absurd hd (Nat.not_lt_zero _)⟩
    case round =>
      obtain ⟨q, hq, rfl, hg, hn⟩ := hrel
      have HG := Lib.hid hg
      have HN := Lib.hid hn
      clear hg hn
      by_cases hlt : q < 16
      · have HC1 : Hid (∀ W, Grew w W → Gives Try.prog 79 #[.slice X 128 kx, .int .i64 t, .int .i64 q] W (.int .i64 (clI R t q))) := Lib.hid fun W hW => HC.out q W hW
        have HE : Hid (clI R t q = k → fin = q) := Lib.hid fun he => by rw [← HFi.out]; exact colF_some (by have := HK.out; omega) hlt he HN.out
        have HN2 : Hid (clI R t q ≠ k → ∀ d : Nat, d < q + 1 → clI R t d ≠ k) := Lib.hid fun he d hd => by
          rcases Nat.lt_or_ge d q with h1 | h1
          · exact HN.out d h1
          · obtain rfl : d = q := by omega
            exact he
        generalize clI R t q = x at *
        clear HN
        by_cases he : x = k
        · have e2 : (x == k) = true := by simpa using he
          have hf := HE.out he
          subst hf
          clear he HE HN2
          go_wp2_with (go_at_call 79; (with_reducible refine (HC1.out _ HG.out).grows.mono ?_); rintro e5 w5 ⟨rfl, hg5⟩; have HG5 := Lib.hid (HG.out.trans hg5); clear hg5)
          go_ret
          exact ⟨rfl, HG5.out⟩
        · have e2 : (x == k) = false := by simpa using he
          have HN3 := Lib.hid (HN2.out he)
          clear he HE HN2
          go_wp2_with (go_at_call 79; (with_reducible refine (HC1.out _ HG.out).grows.mono ?_); rintro e5 w5 ⟨rfl, hg5⟩; have HG5 := Lib.hid (HG.out.trans hg5); clear hg5)
          exact ⟨⟨q + 1, by omega, by go_num, HG5.out, HN3.out⟩, by simp only [intOf]; omega⟩
      · obtain rfl : q = 16 := by omega
        have hf : fin = -1 := by rw [← HFi.out]; exact colF_none HN.out
        subst hf
        go_wp2
        go_ret
        exact ⟨rfl, HG.out⟩
end Go.Proofs.Ytoaciliojdaoaaa

/- Layer 31: a table's rank, the columns of a late table and one of the core: by the document. Condition: conditions that lie in memory that is there; a table that is there. -/
namespace Go.Proofs.Ytoaciliojdaoaaa
open Go.RowKit
attribute [local go_sem] more_cell more_frozen more_more more_setCell more_of_drew more_of_drewN lt_more le_more past_cell past_cell2 past_frozen past_frozen2 past_setCell past_setCell2 mid_cell mid_frozen mid_setCell
attribute [local go_sem ↓] Go.wp_at_zero Go.wp_at_succ

def RrkAt (w : World) (l : List Int) (v : Int) (i : Value) (wr : World) : Prop := ∃ j : Nat, j ≤ l.length ∧ i = .int .i64 j ∧ Grew w wr ∧ ∀ (p : Nat) (hp : p < l.length), p < j → l[p] ≠ v
set_option maxHeartbeats 8000000 in
set_option maxRecDepth 100000 in
theorem rrank31_any (core : Int) (l : List La) (order : List Int) (S : Option Addr) (ks : Nat) (t : Nat) (A : Option Addr) (n k : Nat) (B : Option Addr) (m j : Nat) (C : Option Addr) (p c : Nat) (D : Option Addr) (d : Nat) (E : Option Addr) (qn en : Nat) (w : World) (hn : n ≤ 100000) (hl : l.length ≤ 100000) (ho : order.length ≤ 1000000) (ht : t < n + l.length)
    (hr : LasR (PRow w) D l) (hs : Row w S (iV order)) :
    Gives Try.prog 12 #[.agg (nqC core A n k B m j C p c D l.length d E qn en), .slice S order.length ks, .int .i64 t] w (.int .i64 (rankI n (jsI l) order t)) := by
  obtain ⟨fin, hfin⟩ : ∃ fin, rankI n (jsI l) order t = fin := ⟨_, rfl⟩
  rw [hfin]
  have HFi := Lib.hid hfin
  clear hfin
  obtain ⟨W0, hW0⟩ : ∃ W0, W0 = w.alloc (.cells (nqC core A n k B m j C p c D l.length d E qn en) 37) := ⟨_, rfl⟩
  have HG0 : Hid (Grew w W0) := Lib.hid (by rw [hW0]; exact (Grew.refl w).alloc _)
  have HX0 : Hid (Blok W0 w.heap.size 37 (nqC core A n k B m j C p c D l.length d E qn en)) := Lib.hid (by rw [hW0]; exact Blok.new _ _ _ _ rfl)
  have HR := Lib.hid (hr.grew HG0.out)
  have HSr := Lib.hid (hs.grew HG0.out)
  clear hr hs
  have t1 : decide ((t : Int) < 0) = false := decide_eq_false (by omega)
  obtain ⟨sum, hsum⟩ : ∃ sum : Int, (n : Int) + (l.length : Int) = sum := ⟨_, rfl⟩
  have t2 : IntKind.i64.wrap ((n : Int) + (l.length : Int)) = sum := by rw [IntWalk.i64_in _ (by omega)]; exact hsum
  have t3 : decide (sum ≤ (t : Int)) = false := decide_eq_false (by omega)
  have t4 : ¬ sum ≤ (t : Int) := by omega
  clear hsum
  unfold nqC at *
  unfold Gives
  by_cases htn : t < n
  · have e1 : decide ((n : Int) ≤ (t : Int)) = false := decide_eq_false (by omega)
    have e2 : ¬ (n : Int) ≤ (t : Int) := by omega
    have HF2 : Hid (fin = if ixI order t < 0 then -1 else 1 + ixI order t) := Lib.hid (by rw [← HFi.out, rankI, if_pos (by omega)])
    clear HFi htn hl ht
    go_enter Try.func12, Try.ntmps12
    go_upto_region 1 with fail
    rw [← hW0]
    clear hW0
    obtain ⟨xl, x0, x1, x2, x3, x4, x5⟩ := nm_in HX0.out
    go_wp2_with fail
    clear xl x0 x1 x2 x3 x4 x5 t1 t2 t3 t4 e1 e2
    go_loopw [9] (fun i wr => RrkAt W0 order t i wr) (fun i _ => order.length - (intOf i).toNat)
    case atStart => exact ⟨0, Nat.zero_le _, rfl, Grew.refl _, fun p hp h => absurd h (Nat.not_lt_zero _)⟩
    case round =>
      obtain ⟨z, hz, rfl, hg, hnn⟩ := hrel
      have HG := Lib.hid hg
      have HN := Lib.hid hnn
      clear hg hnn
      by_cases h : z < order.length
      · obtain ⟨b, o, rfl, hb, hc⟩ := rowI_at (HSr.out.grew HG.out) h
        have HX : Hid (order[z] = (t : Int) → ixI order t = z) := Lib.hid fun e => ixI_at h e HN.out
        have HNx : Hid (order[z] ≠ (t : Int) → ∀ (p : Nat) (hp : p < order.length), p < z + 1 → order[p] ≠ (t : Int)) := Lib.hid fun e p hp h1 => by
          rcases Nat.lt_or_ge p z with h2 | h2
          · exact HN.out p hp h2
          · obtain rfl : p = z := by omega
            exact e
        clear HN
        generalize order[z] = x at *
        by_cases e : x = t
        · have hf : fin = 1 + (z : Int) := by rw [HF2.out, HX.out e, if_neg (by omega)]
          have e1 : (x == (t : Int)) = true := by simpa using e
          have e3 : IntKind.i64.wrap (1 + (z : Int)) = 1 + (z : Int) := IntWalk.i64_in _ (by omega)
          subst hf
          clear HNx HX e
          go_wp2
          go_ret
          exact ⟨rfl, HG0.out.trans HG.out⟩
        · have HN2 := Lib.hid (HNx.out e)
          have e1 : (x == (t : Int)) = false := by simpa using e
          clear HNx HX e
          go_wp2
          exact ⟨⟨z + 1, by omega, by go_num, HG.out, HN2.out⟩, by simp only [intOf]; omega⟩
      · obtain rfl : z = order.length := by omega
        have hf : fin = -1 := by rw [HF2.out, ixI_none fun p hp => HN.out p hp hp]; rfl
        subst hf
        go_wp2
        go_ret
        exact ⟨rfl, HG0.out.trans HG.out⟩
  · obtain ⟨i, rfl⟩ : ∃ i, t = n + i := ⟨t - n, by omega⟩
    have hi : i < l.length := by omega
    have e1 : decide ((n : Int) ≤ ((n + i : Nat) : Int)) = true := decide_eq_true (by omega)
    have e2 : (n : Int) ≤ ((n + i : Nat) : Int) := by omega
    have e3 : IntKind.i64.wrap (((n + i : Nat) : Int) - (n : Int)) = (i : Int) := by rw [IntWalk.i64_in _ (by omega)]; omega
    have HF1 : Hid (fin = if l[i].join = 2 ∨ l[i].join = 4 then 0 else 1 + ((n + i : Nat) : Int)) := Lib.hid (by rw [← HFi.out, rankI, if_neg (by omega), if_neg (by simp [jsI]; omega), jsI_at hi])
    have hw1 : IntKind.i64.wrap (1 + ((n + i : Nat) : Int)) = 1 + ((n + i : Nat) : Int) := IntWalk.i64_in _ (by omega)
    obtain ⟨b, o, K, k', S2, s2, T2, r2, rfl, hb0, y0, y1, y2, y3, y4, _, _, _⟩ := lasR_at HR.out hi
    have hil : (i : Int) < (l.length : Int) := by omega
    clear HFi htn ht HR HSr ho hl y0 y2 y3 y4
    generalize ((n + i : Nat) : Int) = t at *
    generalize l[i] = x at *
    have cases3 : x.join = 2 ∨ (¬ x.join = 2 ∧ x.join = 4) ∨ (¬ x.join = 2 ∧ ¬ x.join = 4) := by omega
    rcases cases3 with h1 | ⟨h1, h2⟩ | ⟨h1, h2⟩
    · have hf : fin = 0 := by rw [HF1.out, if_pos (Or.inl h1)]
      have e5 : (x.join == 2) = true := by rw [h1]; rfl
      subst hf
      clear HF1
      go_enter Try.func12, Try.ntmps12
      go_upto_region 1 with fail
      rw [← hW0]
      clear hW0
      obtain ⟨xl, x0, x1, x2, x3, x4, x5⟩ := nm_in HX0.out
      go_wp2
      go_ret
      exact ⟨rfl, HG0.out⟩
    · have hf : fin = 0 := by rw [HF1.out, if_pos (Or.inr h2)]
      have e5 : (x.join == 2) = false := by simpa using h1
      have e6 : (x.join == 4) = true := by rw [h2]; rfl
      subst hf
      clear HF1 h1 h2
      go_enter Try.func12, Try.ntmps12
      go_upto_region 1 with fail
      rw [← hW0]
      clear hW0
      obtain ⟨xl, x0, x1, x2, x3, x4, x5⟩ := nm_in HX0.out
      go_wp2
      go_ret
      exact ⟨rfl, HG0.out⟩
    · have hf : fin = 1 + t := by rw [HF1.out, if_neg (by omega)]
      have e5 : (x.join == 2) = false := by simpa using h1
      have e6 : (x.join == 4) = false := by simpa using h2
      subst hf
      clear HF1 h1 h2
      go_enter Try.func12, Try.ntmps12
      go_upto_region 1 with fail
      rw [← hW0]
      clear hW0
      obtain ⟨xl, x0, x1, x2, x3, x4, x5⟩ := nm_in HX0.out
      go_wp2
      go_ret
      exact ⟨rfl, HG0.out⟩
/-- Columns gathered in two rows behind the first world. -/
def RkyAt (v : World) (R : Nat → Nat) (n : Nat) (t : Int) (l : List Ed) (x y i : Value) (wr : World) : Prop :=
  ∃ (q : Nat) (A B : Option Addr) (c d : Nat), q ≤ l.length ∧ i = .int .i64 q ∧ x = .slice A (keyP (clI R) n (l.take q) t).length c ∧ y = .slice B (keyP (clI R) n (l.take q) t).length d ∧ Two v (keyP (clI R) n (l.take q) t) A c B d wr ∧ Grew v wr
set_option maxHeartbeats 16000000 in
set_option maxRecDepth 100000 in
theorem rkeyed_any (t : Nat) (core : Int) (es : List Ed) (A : Option Addr) (n ka : Nat) (B : Option Addr) (j : Nat) (C : Option Addr) (p c : Nat) (D : Option Addr) (ll d : Nat) (E : Option Addr) (qn en : Nat) (x : La) (K : Option Addr) (kk : Nat) (S : Option Addr) (ss : Nat) (T : Option Addr) (tt : Nat) (w : World) (ht : t < n) (hes : es.length ≤ 3000) (hx : x.keys.length ≤ 3000) (he : EdsR (PRow w) B es) (hk : EdsR (PRow w) K x.keys) :
    Calls Try.prog 57 #[.agg (nqC core A n ka B es.length j C p c D ll d E qn en), laV x K kk S ss T tt, .int .i64 t] w (BetF w (keyP (clI (clsE es)) n x.keys t)) := by
  have HCl : Hid (∀ W, Grew w W → Calls Try.prog 58 #[.agg (nqC core A n ka B es.length j C p c D ll d E qn en)] W (RclF W (clsE es))) := Lib.hid fun W hW => rclasses31_any core es A n ka B j C p c D ll d E qn en W (he.grew hW) hes
  have HE : Hid (∀ W, Grew w W → EdsR (PRow W) K x.keys) := Lib.hid fun W hW => hk.grew hW
  have HCo : Hid (∀ (k : Int) (X : Option Addr) (kx : Nat) W, Row W X (numsL 128 (clsE es)) → Gives Try.prog 59 #[.slice X 128 kx, .agg (nqC core A n ka B es.length j C p c D ll d E qn en), .int .i64 t, .int .i64 k] W (.int .i64 (colF (clI (clsE es)) t k))) := Lib.hid fun k X kx W hX => rcol31_any t k (clsE es) X kx core A n ka B es.length j C p c D ll d E qn en W ht hX
  clear he hk hes ht
  unfold RclF at HCl
  generalize clsE es = R at *
  generalize es.length = ne at *
  obtain ⟨v1, hv1⟩ : ∃ v1, v1 = (w.alloc (.cells (nqC core A n ka B ne j C p c D ll d E qn en) 37)).alloc (.cells #[.int .i64 x.table, .int .i64 x.join, .slice K x.keys.length kk, .slice S x.scan.length ss, .slice T x.rest.length tt] 72) := ⟨_, rfl⟩
  have HGv : Hid (Grew w v1) := Lib.hid (by rw [hv1]; exact ((Grew.refl w).alloc _).alloc _)
  have HX0 : Hid (Blok v1 w.heap.size 37 (nqC core A n ka B ne j C p c D ll d E qn en)) := Lib.hid (by rw [hv1]; exact (Blok.new _ _ _ _ rfl).alloc _)
  have HBl : Hid (Blok v1 (w.heap.size + 1) 72 #[.int .i64 x.table, .int .i64 x.join, .slice K x.keys.length kk, .slice S x.scan.length ss, .slice T x.rest.length tt]) := Lib.hid (by rw [hv1]; exact Blok.new _ _ _ _ (by simp))
  unfold nqC at *
  unfold laV
  generalize x.keys = l at *
  go_enter Try.func57, Try.ntmps57
  go_upto_region 1 with fail
  rw [← hv1]
  clear hv1
  generalize w.heap.size + 1 = bl at *
  generalize w.heap.size = bx at *
  obtain ⟨xl, x0, x1, x2, x3, x4, x5⟩ := nm_in HX0.out
  go_wp2_with (go_at_call 58; (with_reducible refine (HCl.out _ HGv.out).mono ?_); rintro e5 w5 ⟨X, kx, rfl, hg5, hr5⟩; have HG5 := Lib.hid hg5; have HR5 := Lib.hid hr5; clear hg5 hr5)
  clear xl x0 x1 x2 x3 x4 x5 HCl
  go_loopw [8, 9, 11] (fun x y i wr => RkyAt w5 R n t l x y i wr) (fun _ _ i _ => l.length - (intOf i).toNat)
  case atStart => exact ⟨0, none, none, 0, 0, by omega, rfl, by rw [List.take_zero]; rfl, by rw [List.take_zero]; rfl, by rw [List.take_zero]; exact Two.nil w5, Grew.refl _⟩
  case round =>
    obtain ⟨q, A1, B1, c1, d1, hq, rfl, rfl, rfl, ht, hg⟩ := hrel
    have HT := Lib.hid ht
    have HG := Lib.hid hg
    have hln := keyP_len (clI R) n (l.take q) t
    rw [List.length_take] at hln
    clear ht hg
    have HGw := Lib.hid ((HGv.out.trans HG5.out).trans HG.out)
    obtain ⟨yl, y0, y1, y2, y3, y4, _⟩ := la_cells (HBl.out.grew (HG5.out.trans HG.out))
    by_cases hlt : q < l.length
    · have HP : Hid ((0 ≤ l[q].a ∧ l[q].a < n) ∧ 0 ≤ colF (clI R) t (clI R l[q].a l[q].ac) → keyP (clI R) n (l.take (q + 1)) t = keyP (clI R) n (l.take q) t ++ [(l[q].bc, colF (clI R) t (clI R l[q].a l[q].ac))]) := Lib.hid fun h => keyP_put hlt h
      have HQ : Hid (¬ ((0 ≤ l[q].a ∧ l[q].a < n) ∧ 0 ≤ colF (clI R) t (clI R l[q].a l[q].ac)) → keyP (clI R) n (l.take (q + 1)) t = keyP (clI R) n (l.take q) t) := Lib.hid fun h => keyP_skip hlt h
      obtain ⟨b, o, rfl, hb0, a0, a1, a2, a3⟩ := edsR_at (HE.out _ HGw.out) hlt
      generalize keyP (clI R) n (l.take q) t = m at *
      generalize l[q] = y at *
      have hln2 : m.length ≤ 3000 := by omega
      clear hln
      go_upto_region 7 with fail
      have HBe : Hid (Blok (wr.alloc (.cells #[.int .i64 y.a, .int .i64 y.ac, .int .i64 y.b, .int .i64 y.bc] 68)) wr.heap.size 68 #[.int .i64 y.a, .int .i64 y.ac, .int .i64 y.b, .int .i64 y.bc]) := Lib.hid (Blok.new _ _ _ _ rfl)
      have HGe : Hid (Grew wr (wr.alloc (.cells #[.int .i64 y.a, .int .i64 y.ac, .int .i64 y.b, .int .i64 y.bc] 68))) := Lib.hid ((Grew.refl wr).alloc _)
      clear hb0 a0 a1 a2 a3 yl y0 y1 y2 y3 y4
      generalize (wr.alloc (.cells #[.int .i64 y.a, .int .i64 y.ac, .int .i64 y.b, .int .i64 y.bc] 68)) = W4 at *
      generalize wr.heap.size = be at *
      have HT4 := Lib.hid (HT.out.on HGe.out)
      have HG4 := Lib.hid (HG.out.trans HGe.out)
      obtain ⟨xl, x0, x1, x2, x3, x4, x5⟩ := nm_in (HX0.out.grew (HG5.out.trans HG4.out))
      obtain ⟨r0, d0, d1', d2, d3, _, _, _, _⟩ := ed_in HBe.out
      clear HT HG HE HBl
      by_cases ha0 : y.a < 0
      · have e1 : decide (y.a < (0 : Int)) = true := decide_eq_true ha0
        have HL2 := Lib.hid (HQ.out fun h2 => by omega)
        clear HP HQ HCo
        go_wp2_with fail
        exact ⟨⟨q + 1, A1, B1, c1, d1, by omega, by go_num, by rw [HL2.out], by rw [HL2.out], by rw [HL2.out]; exact HT4.out, HG4.out⟩, by simp only [intOf]; omega⟩
      · have e1 : decide (y.a < (0 : Int)) = false := decide_eq_false ha0
        by_cases han : (n : Int) ≤ y.a
        · have e2 : decide ((n : Int) ≤ y.a) = true := decide_eq_true han
          have HL2 := Lib.hid (HQ.out fun h2 => by omega)
          clear HP HQ HCo
          go_wp2_with fail
          exact ⟨⟨q + 1, A1, B1, c1, d1, by omega, by go_num, by rw [HL2.out], by rw [HL2.out], by rw [HL2.out]; exact HT4.out, HG4.out⟩, by simp only [intOf]; omega⟩
        · have e2 : decide ((n : Int) ≤ y.a) = false := decide_eq_false han
          have HC1 : Hid (∀ W, Grew w5 W → Gives Try.prog 79 #[.slice X 128 kx, .int .i64 y.a, .int .i64 y.ac] W (.int .i64 (clI R y.a y.ac))) := Lib.hid fun W hW => rclass31_any y.a y.ac R X kx W (HR5.out.grew hW)
          have HC2 : Hid (∀ W, Grew w5 W → Gives Try.prog 59 #[.slice X 128 kx, .agg #[.int .i64 core, .slice A n ka, .slice B ne j, .slice C p c, .slice D ll d, .slice E qn en], .int .i64 t, .int .i64 (clI R y.a y.ac)] W (.int .i64 (colF (clI R) t (clI R y.a y.ac)))) := Lib.hid fun W hW => HCo.out _ X kx W (HR5.out.grew hW)
          have HP2 : Hid (0 ≤ colF (clI R) t (clI R y.a y.ac) → keyP (clI R) n (l.take (q + 1)) t = m ++ [(y.bc, colF (clI R) t (clI R y.a y.ac))]) := Lib.hid fun hh => HP.out ⟨by omega, hh⟩
          have HQ2 : Hid (¬ 0 ≤ colF (clI R) t (clI R y.a y.ac) → keyP (clI R) n (l.take (q + 1)) t = m) := Lib.hid fun hh => HQ.out fun h2 => hh h2.2
          generalize colF (clI R) t (clI R y.a y.ac) = b at *
          generalize clI R y.a y.ac = kl at *
          clear HP HQ HCo
          have HX4 := Lib.hid (HX0.out.grew (HG5.out.trans HG4.out))
          go_upto_region 8 with fail
          clear r0 d0 d1' d2 d3 xl x0 x1 x2 x3 x4 x5
          have hS0 : Grew W4 W4.drew := (Grew.refl W4).drew
          refine wp_region_S (fun W => Grew W4 W) (by kernel_rfl) ?_
          refine held_take 0 (v := ?_) rfl (by kernel_rfl) (by kernel_rfl) (by kernel_rfl) (fun _ _ _ h => h) (by rfl) ?_ hS0 ?_
          rotate_left
          · (intro W hW; obtain ⟨r0, d0, d1', d2, d3, _, _, _, _⟩ := ed_in (HBe.out.grew hW); obtain ⟨xl, x0, x1, x2, x3, x4, x5⟩ := nm_in (HX4.out.grew hW); go_simp; with_reducible rfl)
          refine held_take 1 (v := ?_) rfl (by kernel_rfl) (by kernel_rfl) (by kernel_rfl) (fun _ _ _ h => h) (by rfl) ?_ hS0 ?_
          rotate_left
          · (intro W hW; obtain ⟨r0, d0, d1', d2, d3, _, _, _, _⟩ := ed_in (HBe.out.grew hW); obtain ⟨xl, x0, x1, x2, x3, x4, x5⟩ := nm_in (HX4.out.grew hW); go_simp; with_reducible rfl)
          refine held_take 2 (v := ?_) rfl (by kernel_rfl) (by kernel_rfl) (by kernel_rfl) (fun _ _ _ h => h) (by rfl) ?_ hS0 ?_
          rotate_left
          · (intro W hW; obtain ⟨r0, d0, d1', d2, d3, _, _, _, _⟩ := ed_in (HBe.out.grew hW); obtain ⟨xl, x0, x1, x2, x3, x4, x5⟩ := nm_in (HX4.out.grew hW); go_simp; with_reducible rfl)
          refine held_take 3 (v := ?_) rfl (by kernel_rfl) (by kernel_rfl) (by kernel_rfl) (fun _ _ _ h => h) (by rfl) ?_ hS0 ?_
          rotate_left
          · (intro W hW; obtain ⟨r0, d0, d1', d2, d3, _, _, _, _⟩ := ed_in (HBe.out.grew hW); obtain ⟨xl, x0, x1, x2, x3, x4, x5⟩ := nm_in (HX4.out.grew hW); go_simp; with_reducible rfl)
          refine held_take 4 (v := ?_) rfl (by kernel_rfl) (by kernel_rfl) (by kernel_rfl) (fun _ _ _ h => h) (by rfl) ?_ hS0 ?_
          rotate_left
          · (intro W hW; obtain ⟨r0, d0, d1', d2, d3, _, _, _, _⟩ := ed_in (HBe.out.grew hW); obtain ⟨xl, x0, x1, x2, x3, x4, x5⟩ := nm_in (HX4.out.grew hW); go_simp; with_reducible rfl)
          refine held_take 5 (v := ?_) rfl (by kernel_rfl) (by kernel_rfl) (by kernel_rfl) (fun _ _ _ h => h) (by rfl) ?_ hS0 ?_
          rotate_left
          · (intro W hW; obtain ⟨r0, d0, d1', d2, d3, _, _, _, _⟩ := ed_in (HBe.out.grew hW); obtain ⟨xl, x0, x1, x2, x3, x4, x5⟩ := nm_in (HX4.out.grew hW); go_simp; with_reducible rfl)
          refine held_take 6 (v := ?_) rfl (by kernel_rfl) (by kernel_rfl) (by kernel_rfl) (fun _ _ _ h => h) (by rfl) ?_ hS0 ?_
          rotate_left
          · (intro W hW; obtain ⟨r0, d0, d1', d2, d3, _, _, _, _⟩ := ed_in (HBe.out.grew hW); obtain ⟨xl, x0, x1, x2, x3, x4, x5⟩ := nm_in (HX4.out.grew hW); go_simp; with_reducible rfl)
          refine held_take 7 (v := ?_) rfl (by kernel_rfl) (by kernel_rfl) (by kernel_rfl) (fun _ _ _ h => h) (by rfl) ?_ hS0 ?_
          rotate_left
          · (intro W hW; obtain ⟨r0, d0, d1', d2, d3, _, _, _, _⟩ := ed_in (HBe.out.grew hW); obtain ⟨xl, x0, x1, x2, x3, x4, x5⟩ := nm_in (HX4.out.grew hW); go_simp; with_reducible rfl)
          refine held_norm (a' := ?_) ?_ ?_
          rotate_left
          · (go_simp; with_reducible rfl)
          refine held_call 8 (by kernel_rfl) rfl (by rfl) (fun K hK => ?_)
          go_simp
          go_wp2_with ((go_at_call 79; (with_reducible refine (HC1.out _ (HG4.out.trans hS0)).grows.mono ?_); rintro e6 w6 ⟨rfl, hg6⟩; have hS6 := hS0.trans hg6))
          refine hK.out _ _ hS6 ?_
          clear hK K
          refine held_call 9 (by kernel_rfl) rfl (by rfl) (fun K hK => ?_)
          go_simp
          go_wp2_with ((go_at_call 59; (with_reducible refine (HC2.out _ (HG4.out.trans hS6)).grows.mono ?_); rintro e7 w7 ⟨rfl, hg7⟩; have hS7 := hS6.trans hg7))
          refine hK.out _ _ hS7 ?_
          clear hK K
          refine held_take 10 (v := ?_) rfl (by kernel_rfl) (by kernel_rfl) (by kernel_rfl) (fun _ _ _ h => h) (by rfl) ?_ hS7 ?_
          rotate_left
          · (intro W hW; go_simp; with_reducible rfl)
          refine held_norm (a' := ?_) ?_ ?_
          rotate_left
          · (go_simp; with_reducible rfl)
          refine held_done (by kernel_rfl) ?_
          have HG7 := Lib.hid (HG4.out.trans hS7)
          have HT7 := Lib.hid (HT4.out.on hS7)
          have HB7 := Lib.hid (HBe.out.grew hS7)
          clear hS7 hg7 hS6 hg6 hS0 HT4 HG4
          obtain ⟨r0, d0, d1', d2, d3, _, _, _, _⟩ := ed_in HB7.out
          by_cases hb : 0 ≤ b
          · have e3 : decide ((0 : Int) ≤ b) = true := decide_eq_true hb
            have HL2 := Lib.hid (HP2.out hb)
            clear HP2 HQ2
            go_upto_region 11 with (at_builtin; refine wpList_appC rfl _ _ 30 3 1 rfl w5.heap.size (.int .i64 0) 8 Try.underlying30 infoI rfl (by decide) (by decide) _ m.length (iV (lcP m)) rfl (HT7.out.on ((Grew.refl _).alloc _)).one _ 1 1 [.int .i64 y.bc] rfl rfl (row_one _ _ _ _ rfl) (by simp [Value.oneCell']) (by omega) (by have := HG7.out.size; rw [World.size_alloc]; omega) ?_; intro A9 c9 w9 ho9 hg9 hor9; have HT9 := Lib.hid ((HT7.out.on ((Grew.refl _).alloc (.cells #[.int .i64 y.bc] 3))).half ho9 hg9 hor9); have HG9 := Lib.hid ((HG7.out.alloc (.cells #[.int .i64 y.bc] 3)).grown hg9 (own_base HT7.out.one)); clear ho9 hg9 hor9)
            clear r0 d0 d1' d2 d3
            go_wp2_with (at_builtin; refine wpList_appC rfl _ _ 30 3 1 rfl w5.heap.size (.int .i64 0) 8 Try.underlying30 infoI rfl (by decide) (by decide) _ m.length (iV (rcP m)) rfl (HT9.out.on ((Grew.refl _).alloc _)).two _ 1 1 [.int .i64 b] rfl rfl (row_one _ _ _ _ rfl) (by simp [Value.oneCell']) (by omega) (by have := HG9.out.size; rw [World.size_alloc]; omega) ?_; intro A10 c10 w10 ho10 hg10 hor10; have HT10 := Lib.hid ((HT9.out.on ((Grew.refl _).alloc (.cells #[.int .i64 b] 3))).whole ho10 hg10 hor10); have HG10 := Lib.hid ((HG9.out.alloc (.cells #[.int .i64 b] 3)).grown hg10 (own_base HT9.out.two)); clear ho10 hg10 hor10)
            have hlen : (m ++ [(y.bc, b)]).length = m.length + 1 := by simp
            exact ⟨⟨q + 1, A9, A10, c9, c10, by omega, by go_num, by rw [HL2.out, hlen], by rw [HL2.out, hlen], by rw [HL2.out]; exact HT10.out, HG10.out⟩, by simp only [intOf]; omega⟩
          · have e3 : decide ((0 : Int) ≤ b) = false := decide_eq_false hb
            have HL2 := Lib.hid (HQ2.out (by omega))
            clear HP2 HQ2
            go_wp2_with fail
            exact ⟨⟨q + 1, A1, B1, c1, d1, by omega, by go_num, by rw [HL2.out], by rw [HL2.out], by rw [HL2.out]; exact HT7.out, HG7.out⟩, by simp only [intOf]; omega⟩
    · obtain rfl : q = l.length := by omega
      rw [List.take_length] at HT
      have HRw := Lib.hid (HT.out.rows.low (HGv.out.trans HG5.out).size)
      rw [List.take_length]
      go_wp2
      go_ret2
      exact ⟨_, _, rfl, HGw.out, HRw.out⟩
end Go.Proofs.Ytoaciliojdaoaaa

/- Layer 31: the columns of two tables that must be the same, by the document. Condition: conditions that lie in memory that is there; two tables that are there. -/
namespace Go.Proofs.Ytoaciliojdaoaaa
open Go.RowKit
attribute [local go_sem] more_cell more_frozen more_more more_setCell more_of_drew more_of_drewN lt_more le_more past_cell past_cell2 past_frozen past_frozen2 past_setCell past_setCell2 mid_cell mid_frozen mid_setCell
attribute [local go_sem ↓] Go.wp_at_zero Go.wp_at_succ

def RinAt (v : World) (R : Nat → Nat) (f t : Int) (x y i : Value) (wr : World) : Prop :=
  ∃ (q : Nat) (A B : Option Addr) (c d : Nat), q ≤ 128 ∧ i = .int .i64 q ∧ x = .slice A (coreP (clI R) q f t).length c ∧ y = .slice B (coreP (clI R) q f t).length d ∧ Two v (coreP (clI R) q f t) A c B d wr ∧ Grew v wr
set_option maxHeartbeats 16000000 in
set_option maxRecDepth 100000 in
theorem rbetween31_any (core : Int) (es : List Ed) (l : List La) (f t : Nat) (A : Option Addr) (n k : Nat) (B : Option Addr) (j : Nat) (C : Option Addr) (p c : Nat) (D : Option Addr) (d : Nat) (E : Option Addr) (qn en : Nat) (w : World) (hn : n ≤ 100000) (hl : l.length ≤ 100000) (hes : es.length ≤ 3000) (hks : ∀ x ∈ l, x.keys.length ≤ 3000) (hf : f < n + l.length) (ht : t < n + l.length)
    (hr : LasR (PRow w) D l) (he : EdsR (PRow w) B es) :
    Calls Try.prog 32 #[.agg (nqC core A n k B es.length j C p c D l.length d E qn en), .int .i64 f, .int .i64 t] w (BetF w (betP (clI (clsE es)) n l f t)) := by
  have HCl : Hid (∀ W, Grew w W → Calls Try.prog 58 #[.agg (nqC core A n k B es.length j C p c D l.length d E qn en)] W (RclF W (clsE es))) := Lib.hid fun W hW => rclasses31_any core es A n k B j C p c D l.length d E qn en W (he.grew hW) hes
  have HKy : Hid (∀ (z : Nat) (i : Nat) (hi : i < l.length) K kk S ss T tt W, z < n → Grew w W → EdsR (PRow W) K l[i].keys → Calls Try.prog 57 #[.agg (nqC core A n k B es.length j C p c D l.length d E qn en), laV l[i] K kk S ss T tt, .int .i64 z] W (BetF W (keyP (clI (clsE es)) n l[i].keys z))) := Lib.hid fun z i hi K kk S ss T tt W hz hW hK => rkeyed_any z core es A n k B j C p c D l.length d E qn en l[i] K kk S ss T tt W hz hes (hks _ (List.getElem_mem hi)) (he.grew hW) hK
  have HCo : Hid (∀ (z : Nat) (q : Nat) (X : Option Addr) (kx : Nat) W, z < n → Row W X (numsL 128 (clsE es)) → Gives Try.prog 59 #[.slice X 128 kx, .agg (nqC core A n k B es.length j C p c D l.length d E qn en), .int .i64 z, .int .i64 q] W (.int .i64 (colF (clI (clsE es)) z q))) := Lib.hid fun z q X kx W hz hX => rcol31_any z q (clsE es) X kx core A n k B es.length j C p c D l.length d E qn en W hz hX
  have HR := Lib.hid hr
  clear hr he hks hes
  unfold RclF at HCl
  unfold laV at HKy
  generalize clsE es = R at *
  generalize es.length = ne at *
  obtain ⟨fin, hfin⟩ : ∃ fin, betP (clI R) n l f t = fin := ⟨_, rfl⟩
  rw [hfin]
  have HFi := Lib.hid hfin
  clear hfin
  obtain ⟨W0, hW0⟩ : ∃ W0, W0 = w.alloc (.cells (nqC core A n k B ne j C p c D l.length d E qn en) 37) := ⟨_, rfl⟩
  have HG0 : Hid (Grew w W0) := Lib.hid (by rw [hW0]; exact (Grew.refl w).alloc _)
  have HX0 : Hid (Blok W0 w.heap.size 37 (nqC core A n k B ne j C p c D l.length d E qn en)) := Lib.hid (by rw [hW0]; exact Blok.new _ _ _ _ rfl)
  obtain ⟨sum, hsum⟩ : ∃ sum : Int, (n : Int) + (l.length : Int) = sum := ⟨_, rfl⟩
  have t0 : decide ((f : Int) < 0) = false := decide_eq_false (by omega)
  have t1 : decide ((t : Int) < 0) = false := decide_eq_false (by omega)
  have t2 : IntKind.i64.wrap ((n : Int) + (l.length : Int)) = sum := by rw [IntWalk.i64_in _ (by omega)]; exact hsum
  have t3 : decide (sum ≤ (f : Int)) = false := decide_eq_false (by omega)
  have t4 : decide (sum ≤ (t : Int)) = false := decide_eq_false (by omega)
  clear hsum
  unfold nqC at *
  by_cases h3 : f = t
  · have hF : fin = [] := by rw [← HFi.out, betP, if_neg (by omega), if_neg (by omega), if_neg (by omega)]
    subst hF
    have t5 : ((f : Int) == (t : Int)) = true := by rw [beq_iff_eq]; omega
    clear HFi HKy HCo HCl HR hf ht
    go_enter Try.func32, Try.ntmps32
    go_upto_region 1 with fail
    rw [← hW0]
    clear hW0
    generalize w.heap.size = bx at *
    have hS0 : Grew W0 W0.drew := (Grew.refl W0).drew
    refine wp_region_S (fun W => Grew W0 W) (by kernel_rfl) ?_
    refine held_take 0 (v := ?_) rfl (by kernel_rfl) (by kernel_rfl) (by kernel_rfl) (fun _ _ _ h => h) (by rfl) ?_ hS0 ?_
    rotate_left
    · (intro W hW; obtain ⟨xl, x0, x1, x2, x3, x4, x5⟩ := nm_in (HX0.out.grew hW); go_simp; with_reducible rfl)
    refine held_take 1 (v := ?_) rfl (by kernel_rfl) (by kernel_rfl) (by kernel_rfl) (fun _ _ _ h => h) (by rfl) ?_ hS0 ?_
    rotate_left
    · (intro W hW; obtain ⟨xl, x0, x1, x2, x3, x4, x5⟩ := nm_in (HX0.out.grew hW); go_simp; with_reducible rfl)
    refine held_take 2 (v := ?_) rfl (by kernel_rfl) (by kernel_rfl) (by kernel_rfl) (fun _ _ _ h => h) (by rfl) ?_ hS0 ?_
    rotate_left
    · (intro W hW; obtain ⟨xl, x0, x1, x2, x3, x4, x5⟩ := nm_in (HX0.out.grew hW); go_simp; with_reducible rfl)
    refine held_take 3 (v := ?_) rfl (by kernel_rfl) (by kernel_rfl) (by kernel_rfl) (fun _ _ _ h => h) (by rfl) ?_ hS0 ?_
    rotate_left
    · (intro W hW; obtain ⟨xl, x0, x1, x2, x3, x4, x5⟩ := nm_in (HX0.out.grew hW); go_simp; with_reducible rfl)
    refine held_take 4 (v := ?_) rfl (by kernel_rfl) (by kernel_rfl) (by kernel_rfl) (fun _ _ _ h => h) (by rfl) ?_ hS0 ?_
    rotate_left
    · (intro W hW; obtain ⟨xl, x0, x1, x2, x3, x4, x5⟩ := nm_in (HX0.out.grew hW); go_simp; with_reducible rfl)
    refine held_take 5 (v := ?_) rfl (by kernel_rfl) (by kernel_rfl) (by kernel_rfl) (fun _ _ _ h => h) (by rfl) ?_ hS0 ?_
    rotate_left
    · (intro W hW; obtain ⟨xl, x0, x1, x2, x3, x4, x5⟩ := nm_in (HX0.out.grew hW); go_simp; with_reducible rfl)
    refine held_take 6 (v := ?_) rfl (by kernel_rfl) (by kernel_rfl) (by kernel_rfl) (fun _ _ _ h => h) (by rfl) ?_ hS0 ?_
    rotate_left
    · (intro W hW; obtain ⟨xl, x0, x1, x2, x3, x4, x5⟩ := nm_in (HX0.out.grew hW); go_simp; with_reducible rfl)
    refine held_take 7 (v := ?_) rfl (by kernel_rfl) (by kernel_rfl) (by kernel_rfl) (fun _ _ _ h => h) (by rfl) ?_ hS0 ?_
    rotate_left
    · (intro W hW; obtain ⟨xl, x0, x1, x2, x3, x4, x5⟩ := nm_in (HX0.out.grew hW); go_simp; with_reducible rfl)
    refine held_take 8 (v := ?_) rfl (by kernel_rfl) (by kernel_rfl) (by kernel_rfl) (fun _ _ _ h => h) (by rfl) ?_ hS0 ?_
    rotate_left
    · (intro W hW; obtain ⟨xl, x0, x1, x2, x3, x4, x5⟩ := nm_in (HX0.out.grew hW); go_simp; with_reducible rfl)
    refine held_take 9 (v := ?_) rfl (by kernel_rfl) (by kernel_rfl) (by kernel_rfl) (fun _ _ _ h => h) (by rfl) ?_ hS0 ?_
    rotate_left
    · (intro W hW; obtain ⟨xl, x0, x1, x2, x3, x4, x5⟩ := nm_in (HX0.out.grew hW); go_simp; with_reducible rfl)
    refine held_take 10 (v := ?_) rfl (by kernel_rfl) (by kernel_rfl) (by kernel_rfl) (fun _ _ _ h => h) (by rfl) ?_ hS0 ?_
    rotate_left
    · (intro W hW; obtain ⟨xl, x0, x1, x2, x3, x4, x5⟩ := nm_in (HX0.out.grew hW); go_simp; with_reducible rfl)
    refine held_take 11 (v := ?_) rfl (by kernel_rfl) (by kernel_rfl) (by kernel_rfl) (fun _ _ _ h => h) (by rfl) ?_ hS0 ?_
    rotate_left
    · (intro W hW; obtain ⟨xl, x0, x1, x2, x3, x4, x5⟩ := nm_in (HX0.out.grew hW); go_simp; with_reducible rfl)
    refine held_norm (a' := ?_) ?_ ?_
    rotate_left
    · (go_simp; with_reducible rfl)
    refine held_done (by kernel_rfl) ?_
    have HG1 := Lib.hid (HG0.out.trans hS0)
    have HX1 := Lib.hid (HX0.out.grew hS0)
    clear hS0 HX0 HG0
    generalize W0.drew = W1 at *
    go_wp2_with fail
    have HGf := HG1
    have HRf := Lib.hid (BetR.nil w W1)
    go_ret2
    exact ⟨_, _, rfl, HGf.out, HRf.out⟩
  · by_cases h1 : f < n
    · by_cases h2 : t < n
      · have hF : fin = coreP (clI R) 128 f t := by rw [← HFi.out, betP, if_neg (by omega), if_neg (by omega), if_pos ⟨by omega, by omega, by omega⟩]
        subst hF
        have t5 : ((f : Int) == (t : Int)) = false := by rw [beq_eq_false_iff_ne]; omega
        have t6 : decide ((n : Int) ≤ (f : Int)) = false := decide_eq_false (by omega)
        have t7 : decide ((n : Int) ≤ (t : Int)) = false := decide_eq_false (by omega)
        clear HFi HKy HR hf ht
        go_enter Try.func32, Try.ntmps32
        go_upto_region 1 with fail
        rw [← hW0]
        clear hW0
        generalize w.heap.size = bx at *
        have hS0 : Grew W0 W0.drew := (Grew.refl W0).drew
        refine wp_region_S (fun W => Grew W0 W) (by kernel_rfl) ?_
        refine held_take 0 (v := ?_) rfl (by kernel_rfl) (by kernel_rfl) (by kernel_rfl) (fun _ _ _ h => h) (by rfl) ?_ hS0 ?_
        rotate_left
        · (intro W hW; obtain ⟨xl, x0, x1, x2, x3, x4, x5⟩ := nm_in (HX0.out.grew hW); go_simp; with_reducible rfl)
        refine held_take 1 (v := ?_) rfl (by kernel_rfl) (by kernel_rfl) (by kernel_rfl) (fun _ _ _ h => h) (by rfl) ?_ hS0 ?_
        rotate_left
        · (intro W hW; obtain ⟨xl, x0, x1, x2, x3, x4, x5⟩ := nm_in (HX0.out.grew hW); go_simp; with_reducible rfl)
        refine held_take 2 (v := ?_) rfl (by kernel_rfl) (by kernel_rfl) (by kernel_rfl) (fun _ _ _ h => h) (by rfl) ?_ hS0 ?_
        rotate_left
        · (intro W hW; obtain ⟨xl, x0, x1, x2, x3, x4, x5⟩ := nm_in (HX0.out.grew hW); go_simp; with_reducible rfl)
        refine held_take 3 (v := ?_) rfl (by kernel_rfl) (by kernel_rfl) (by kernel_rfl) (fun _ _ _ h => h) (by rfl) ?_ hS0 ?_
        rotate_left
        · (intro W hW; obtain ⟨xl, x0, x1, x2, x3, x4, x5⟩ := nm_in (HX0.out.grew hW); go_simp; with_reducible rfl)
        refine held_take 4 (v := ?_) rfl (by kernel_rfl) (by kernel_rfl) (by kernel_rfl) (fun _ _ _ h => h) (by rfl) ?_ hS0 ?_
        rotate_left
        · (intro W hW; obtain ⟨xl, x0, x1, x2, x3, x4, x5⟩ := nm_in (HX0.out.grew hW); go_simp; with_reducible rfl)
        refine held_take 5 (v := ?_) rfl (by kernel_rfl) (by kernel_rfl) (by kernel_rfl) (fun _ _ _ h => h) (by rfl) ?_ hS0 ?_
        rotate_left
        · (intro W hW; obtain ⟨xl, x0, x1, x2, x3, x4, x5⟩ := nm_in (HX0.out.grew hW); go_simp; with_reducible rfl)
        refine held_take 6 (v := ?_) rfl (by kernel_rfl) (by kernel_rfl) (by kernel_rfl) (fun _ _ _ h => h) (by rfl) ?_ hS0 ?_
        rotate_left
        · (intro W hW; obtain ⟨xl, x0, x1, x2, x3, x4, x5⟩ := nm_in (HX0.out.grew hW); go_simp; with_reducible rfl)
        refine held_take 7 (v := ?_) rfl (by kernel_rfl) (by kernel_rfl) (by kernel_rfl) (fun _ _ _ h => h) (by rfl) ?_ hS0 ?_
        rotate_left
        · (intro W hW; obtain ⟨xl, x0, x1, x2, x3, x4, x5⟩ := nm_in (HX0.out.grew hW); go_simp; with_reducible rfl)
        refine held_take 8 (v := ?_) rfl (by kernel_rfl) (by kernel_rfl) (by kernel_rfl) (fun _ _ _ h => h) (by rfl) ?_ hS0 ?_
        rotate_left
        · (intro W hW; obtain ⟨xl, x0, x1, x2, x3, x4, x5⟩ := nm_in (HX0.out.grew hW); go_simp; with_reducible rfl)
        refine held_take 9 (v := ?_) rfl (by kernel_rfl) (by kernel_rfl) (by kernel_rfl) (fun _ _ _ h => h) (by rfl) ?_ hS0 ?_
        rotate_left
        · (intro W hW; obtain ⟨xl, x0, x1, x2, x3, x4, x5⟩ := nm_in (HX0.out.grew hW); go_simp; with_reducible rfl)
        refine held_take 10 (v := ?_) rfl (by kernel_rfl) (by kernel_rfl) (by kernel_rfl) (fun _ _ _ h => h) (by rfl) ?_ hS0 ?_
        rotate_left
        · (intro W hW; obtain ⟨xl, x0, x1, x2, x3, x4, x5⟩ := nm_in (HX0.out.grew hW); go_simp; with_reducible rfl)
        refine held_take 11 (v := ?_) rfl (by kernel_rfl) (by kernel_rfl) (by kernel_rfl) (fun _ _ _ h => h) (by rfl) ?_ hS0 ?_
        rotate_left
        · (intro W hW; obtain ⟨xl, x0, x1, x2, x3, x4, x5⟩ := nm_in (HX0.out.grew hW); go_simp; with_reducible rfl)
        refine held_norm (a' := ?_) ?_ ?_
        rotate_left
        · (go_simp; with_reducible rfl)
        refine held_done (by kernel_rfl) ?_
        have HG1 := Lib.hid (HG0.out.trans hS0)
        have HX1 := Lib.hid (HX0.out.grew hS0)
        clear hS0 HX0 HG0
        generalize W0.drew = W1 at *
        obtain ⟨xl, x0, x1, x2, x3, x4, x5⟩ := nm_in HX1.out
        go_wp2_with (go_at_call 58; (with_reducible refine (HCl.out _ HG1.out).mono ?_); rintro e5 w5 ⟨X, kx, rfl, hg5, hr5⟩; have HG5 := Lib.hid hg5; have HR5 := Lib.hid hr5; clear hg5 hr5)
        clear xl x0 x1 x2 x3 x4 x5 HCl t0 t1 t2 t3 t4 t5 t6 t7
        go_loopw [12, 13, 15] (fun x y i wr => RinAt w5 R f t x y i wr) (fun _ _ i _ => 128 - (intOf i).toNat)
        case atStart => exact ⟨0, none, none, 0, 0, by omega, rfl, rfl, rfl, Two.nil w5, Grew.refl _⟩
        case round =>
          obtain ⟨q, A1, B1, c1, d1, hq, rfl, rfl, rfl, ht, hg⟩ := hrel
          have HT := Lib.hid ht
          have HG := Lib.hid hg
          have hln := coreP_len (clI R) q f t
          clear ht hg
          by_cases hlt : q < 128
          · have HP : Hid (0 ≤ colF (clI R) f q ∧ 0 ≤ colF (clI R) t q → coreP (clI R) (q + 1) f t = coreP (clI R) q f t ++ [(colF (clI R) f q, colF (clI R) t q)]) := Lib.hid fun h => coreP_put h
            have HQ : Hid (¬ (0 ≤ colF (clI R) f q ∧ 0 ≤ colF (clI R) t q) → coreP (clI R) (q + 1) f t = coreP (clI R) q f t) := Lib.hid fun h => coreP_skip h
            have HC1 : Hid (∀ W, Grew w5 W → Gives Try.prog 59 #[.slice X 128 kx, .agg #[.int .i64 core, .slice A n k, .slice B ne j, .slice C p c, .slice D l.length d, .slice E qn en], .int .i64 f, .int .i64 q] W (.int .i64 (colF (clI R) f q))) := Lib.hid fun W hW => HCo.out f q X kx W h1 (HR5.out.grew hW)
            have HC2 : Hid (∀ W, Grew w5 W → Gives Try.prog 59 #[.slice X 128 kx, .agg #[.int .i64 core, .slice A n k, .slice B ne j, .slice C p c, .slice D l.length d, .slice E qn en], .int .i64 t, .int .i64 q] W (.int .i64 (colF (clI R) t q))) := Lib.hid fun W hW => HCo.out t q X kx W h2 (HR5.out.grew hW)
            generalize coreP (clI R) q f t = m at *
            generalize colF (clI R) f q = a at *
            generalize colF (clI R) t q = b at *
            have HXr := Lib.hid (HX1.out.grew (HG5.out.trans HG.out))
            go_upto_region 14 with fail
            have hS0 : Grew wr wr.drew := (Grew.refl wr).drew
            refine wp_region_S (fun W => Grew wr W) (by kernel_rfl) ?_
            refine held_take 0 (v := ?_) rfl (by kernel_rfl) (by kernel_rfl) (by kernel_rfl) (fun _ _ _ h => h) (by rfl) ?_ hS0 ?_
            rotate_left
            · (intro W hW; obtain ⟨xl, x0, x1, x2, x3, x4, x5⟩ := nm_in (HXr.out.grew hW); go_simp; with_reducible rfl)
            refine held_take 1 (v := ?_) rfl (by kernel_rfl) (by kernel_rfl) (by kernel_rfl) (fun _ _ _ h => h) (by rfl) ?_ hS0 ?_
            rotate_left
            · (intro W hW; obtain ⟨xl, x0, x1, x2, x3, x4, x5⟩ := nm_in (HXr.out.grew hW); go_simp; with_reducible rfl)
            refine held_take 2 (v := ?_) rfl (by kernel_rfl) (by kernel_rfl) (by kernel_rfl) (fun _ _ _ h => h) (by rfl) ?_ hS0 ?_
            rotate_left
            · (intro W hW; obtain ⟨xl, x0, x1, x2, x3, x4, x5⟩ := nm_in (HXr.out.grew hW); go_simp; with_reducible rfl)
            refine held_take 3 (v := ?_) rfl (by kernel_rfl) (by kernel_rfl) (by kernel_rfl) (fun _ _ _ h => h) (by rfl) ?_ hS0 ?_
            rotate_left
            · (intro W hW; obtain ⟨xl, x0, x1, x2, x3, x4, x5⟩ := nm_in (HXr.out.grew hW); go_simp; with_reducible rfl)
            refine held_take 5 (v := ?_) rfl (by kernel_rfl) (by kernel_rfl) (by kernel_rfl) (fun _ _ _ h => h) (by rfl) ?_ hS0 ?_
            rotate_left
            · (intro W hW; obtain ⟨xl, x0, x1, x2, x3, x4, x5⟩ := nm_in (HXr.out.grew hW); go_simp; with_reducible rfl)
            refine held_take 6 (v := ?_) rfl (by kernel_rfl) (by kernel_rfl) (by kernel_rfl) (fun _ _ _ h => h) (by rfl) ?_ hS0 ?_
            rotate_left
            · (intro W hW; obtain ⟨xl, x0, x1, x2, x3, x4, x5⟩ := nm_in (HXr.out.grew hW); go_simp; with_reducible rfl)
            refine held_take 7 (v := ?_) rfl (by kernel_rfl) (by kernel_rfl) (by kernel_rfl) (fun _ _ _ h => h) (by rfl) ?_ hS0 ?_
            rotate_left
            · (intro W hW; obtain ⟨xl, x0, x1, x2, x3, x4, x5⟩ := nm_in (HXr.out.grew hW); go_simp; with_reducible rfl)
            refine held_take 8 (v := ?_) rfl (by kernel_rfl) (by kernel_rfl) (by kernel_rfl) (fun _ _ _ h => h) (by rfl) ?_ hS0 ?_
            rotate_left
            · (intro W hW; obtain ⟨xl, x0, x1, x2, x3, x4, x5⟩ := nm_in (HXr.out.grew hW); go_simp; with_reducible rfl)
            refine held_norm (a' := ?_) ?_ ?_
            rotate_left
            · (go_simp; with_reducible rfl)
            refine held_call 4 (by kernel_rfl) rfl (by rfl) (fun K hK => ?_)
            go_simp
            go_wp2_with ((go_at_call 59; (with_reducible refine (HC1.out _ (HG.out.trans hS0)).grows.mono ?_); rintro e6 w6 ⟨rfl, hg6⟩; have hS6 := hS0.trans hg6))
            refine hK.out _ _ hS6 ?_
            clear hK K
            refine held_call 9 (by kernel_rfl) rfl (by rfl) (fun K hK => ?_)
            go_simp
            go_wp2_with ((go_at_call 59; (with_reducible refine (HC2.out _ (HG.out.trans hS6)).grows.mono ?_); rintro e7 w7 ⟨rfl, hg7⟩; have hS7 := hS6.trans hg7))
            refine hK.out _ _ hS7 ?_
            clear hK K
            refine held_take 10 (v := ?_) rfl (by kernel_rfl) (by kernel_rfl) (by kernel_rfl) (fun _ _ _ h => h) (by rfl) ?_ hS7 ?_
            rotate_left
            · (intro W hW; go_simp; with_reducible rfl)
            refine held_take 11 (v := ?_) rfl (by kernel_rfl) (by kernel_rfl) (by kernel_rfl) (fun _ _ _ h => h) (by rfl) ?_ hS7 ?_
            rotate_left
            · (intro W hW; go_simp; with_reducible rfl)
            refine held_norm (a' := ?_) ?_ ?_
            rotate_left
            · (go_simp; with_reducible rfl)
            refine held_done (by kernel_rfl) ?_
            have HG7 := Lib.hid (HG.out.trans hS7)
            have HT7 := Lib.hid (HT.out.on hS7)
            clear hS7 hg7 hS6 hg6 hS0 HT HG HC1 HC2 HXr
            by_cases ha : a < 0
            · have e1 : decide (a < (0 : Int)) = true := decide_eq_true ha
              have HL2 := Lib.hid (HQ.out fun h => by omega)
              clear HP HQ
              go_wp2_with fail
              exact ⟨⟨q + 1, A1, B1, c1, d1, by omega, by go_num, by rw [HL2.out], by rw [HL2.out], by rw [HL2.out]; exact HT7.out, HG7.out⟩, by simp only [intOf]; omega⟩
            · have e1 : decide (a < (0 : Int)) = false := decide_eq_false ha
              by_cases hb : 0 ≤ b
              · have e3 : decide ((0 : Int) ≤ b) = true := decide_eq_true hb
                have HL2 := Lib.hid (HP.out ⟨by omega, hb⟩)
                clear HP HQ
                go_upto_region 18 with (at_builtin; refine wpList_appC rfl _ _ 30 3 1 rfl w5.heap.size (.int .i64 0) 8 Try.underlying30 infoI rfl (by decide) (by decide) _ m.length (iV (lcP m)) rfl (HT7.out.on ((Grew.refl _).alloc _)).one _ 1 1 [.int .i64 a] rfl rfl (row_one _ _ _ _ rfl) (by simp [Value.oneCell']) (by omega) (by have := HG7.out.size; rw [World.size_alloc]; omega) ?_; intro A9 c9 w9 ho9 hg9 hor9; have HT9 := Lib.hid ((HT7.out.on ((Grew.refl _).alloc (.cells #[.int .i64 a] 3))).half ho9 hg9 hor9); have HG9 := Lib.hid ((HG7.out.alloc (.cells #[.int .i64 a] 3)).grown hg9 (own_base HT7.out.one)); clear ho9 hg9 hor9)
                go_wp2_with (at_builtin; refine wpList_appC rfl _ _ 30 3 1 rfl w5.heap.size (.int .i64 0) 8 Try.underlying30 infoI rfl (by decide) (by decide) _ m.length (iV (rcP m)) rfl (HT9.out.on ((Grew.refl _).alloc _)).two _ 1 1 [.int .i64 b] rfl rfl (row_one _ _ _ _ rfl) (by simp [Value.oneCell']) (by omega) (by have := HG9.out.size; rw [World.size_alloc]; omega) ?_; intro A10 c10 w10 ho10 hg10 hor10; have HT10 := Lib.hid ((HT9.out.on ((Grew.refl _).alloc (.cells #[.int .i64 b] 3))).whole ho10 hg10 hor10); have HG10 := Lib.hid ((HG9.out.alloc (.cells #[.int .i64 b] 3)).grown hg10 (own_base HT9.out.two)); clear ho10 hg10 hor10)
                have hlen : (m ++ [(a, b)]).length = m.length + 1 := by simp
                exact ⟨⟨q + 1, A9, A10, c9, c10, by omega, by go_num, by rw [HL2.out, hlen], by rw [HL2.out, hlen], by rw [HL2.out]; exact HT10.out, HG10.out⟩, by simp only [intOf]; omega⟩
              · have e3 : decide ((0 : Int) ≤ b) = false := decide_eq_false hb
                have HL2 := Lib.hid (HQ.out fun h => hb h.2)
                clear HP HQ
                go_wp2_with fail
                exact ⟨⟨q + 1, A1, B1, c1, d1, by omega, by go_num, by rw [HL2.out], by rw [HL2.out], by rw [HL2.out]; exact HT7.out, HG7.out⟩, by simp only [intOf]; omega⟩
          · obtain rfl : q = 128 := by omega
            have HRf := Lib.hid (HT.out.rows.low (u := w) (HG1.out.trans HG5.out).size)
            have HGf := Lib.hid ((HG1.out.trans HG5.out).trans HG.out)
            go_wp2
            go_ret2
            exact ⟨_, _, rfl, HGf.out, HRf.out⟩
      · obtain ⟨i, rfl⟩ : ∃ i, t = n + i := ⟨t - n, by omega⟩
        have hi : i < l.length := by omega
        have hF : fin = (keyP (clI R) n l[i].keys f).map fun p => (p.2, p.1) := by rw [← HFi.out, betP, if_neg (by omega), if_pos ⟨⟨by omega, by omega⟩, by omega⟩, getD_at hi]
        subst hF
        have t5 : ((f : Int) == ((n + i : Nat) : Int)) = false := by rw [beq_eq_false_iff_ne]; omega
        have t6 : decide ((n : Int) ≤ ((n + i : Nat) : Int)) = true := decide_eq_true (by omega)
        have t7 : decide ((n : Int) ≤ (f : Int)) = false := decide_eq_false (by omega)
        have t8 : IntKind.i64.wrap (((n + i : Nat) : Int) - (n : Int)) = (i : Int) := by rw [IntWalk.i64_in _ (by omega)]; omega
        have hil : (i : Int) < (l.length : Int) := by omega
        have HKy1 : Hid (∀ K kk S ss T tt W, Grew w W → EdsR (PRow W) K l[i].keys → Calls Try.prog 57 #[.agg #[.int .i64 core, .slice A n k, .slice B ne j, .slice C p c, .slice D l.length d, .slice E qn en], .agg #[.int .i64 l[i].table, .int .i64 l[i].join, .slice K l[i].keys.length kk, .slice S l[i].scan.length ss, .slice T l[i].rest.length tt], .int .i64 f] W (BetF W (keyP (clI R) n l[i].keys f))) := Lib.hid fun K kk S ss T tt W hW hK => HKy.out f i hi K kk S ss T tt W (by omega) hW hK
        obtain ⟨b, o, K, k', S2, s2, T2, r2, rfl, hb0, y0, y1, y2, y3, y4, hk0, _, _⟩ := lasR_at (HR.out.grew HG0.out) hi
        have HY : Hid (∀ W, Grew W0 W → b < W.heap.size ∧ W.cell? ⟨b, o + i * 5, none⟩ = some (.int .i64 l[i].table) ∧ W.cell? ⟨b, o + i * 5 + 1, none⟩ = some (.int .i64 l[i].join) ∧ W.cell? ⟨b, o + i * 5 + 2, none⟩ = some (.slice K l[i].keys.length k') ∧ W.cell? ⟨b, o + i * 5 + 3, none⟩ = some (.slice S2 l[i].scan.length s2) ∧ W.cell? ⟨b, o + i * 5 + 4, none⟩ = some (.slice T2 l[i].rest.length r2)) := Lib.hid fun W hW => ⟨Nat.lt_of_lt_of_le hb0 hW.size, cell_keep hW hb0 y0, cell_keep hW hb0 y1, cell_keep hW hb0 y2, cell_keep hW hb0 y3, cell_keep hW hb0 y4⟩
        have HKe : Hid (∀ W, Grew W0 W → EdsR (PRow W) K l[i].keys) := Lib.hid fun W hW => hk0.grew hW
        clear hb0 y0 y1 y2 y3 y4 hk0 HFi HKy HCo HCl HR hf ht hn hl
        generalize ((n + i : Nat) : Int) = z at *
        generalize l[i] = x at *
        clear hi
        go_enter Try.func32, Try.ntmps32
        go_upto_region 1 with fail
        rw [← hW0]
        clear hW0
        generalize w.heap.size = bx at *
        have hS0 : Grew W0 W0.drew := (Grew.refl W0).drew
        refine wp_region_S (fun W => Grew W0 W) (by kernel_rfl) ?_
        refine held_take 0 (v := ?_) rfl (by kernel_rfl) (by kernel_rfl) (by kernel_rfl) (fun _ _ _ h => h) (by rfl) ?_ hS0 ?_
        rotate_left
        · (intro W hW; obtain ⟨xl, x0, x1, x2, x3, x4, x5⟩ := nm_in (HX0.out.grew hW); go_simp; with_reducible rfl)
        refine held_take 1 (v := ?_) rfl (by kernel_rfl) (by kernel_rfl) (by kernel_rfl) (fun _ _ _ h => h) (by rfl) ?_ hS0 ?_
        rotate_left
        · (intro W hW; obtain ⟨xl, x0, x1, x2, x3, x4, x5⟩ := nm_in (HX0.out.grew hW); go_simp; with_reducible rfl)
        refine held_take 2 (v := ?_) rfl (by kernel_rfl) (by kernel_rfl) (by kernel_rfl) (fun _ _ _ h => h) (by rfl) ?_ hS0 ?_
        rotate_left
        · (intro W hW; obtain ⟨xl, x0, x1, x2, x3, x4, x5⟩ := nm_in (HX0.out.grew hW); go_simp; with_reducible rfl)
        refine held_take 3 (v := ?_) rfl (by kernel_rfl) (by kernel_rfl) (by kernel_rfl) (fun _ _ _ h => h) (by rfl) ?_ hS0 ?_
        rotate_left
        · (intro W hW; obtain ⟨xl, x0, x1, x2, x3, x4, x5⟩ := nm_in (HX0.out.grew hW); go_simp; with_reducible rfl)
        refine held_take 4 (v := ?_) rfl (by kernel_rfl) (by kernel_rfl) (by kernel_rfl) (fun _ _ _ h => h) (by rfl) ?_ hS0 ?_
        rotate_left
        · (intro W hW; obtain ⟨xl, x0, x1, x2, x3, x4, x5⟩ := nm_in (HX0.out.grew hW); go_simp; with_reducible rfl)
        refine held_take 5 (v := ?_) rfl (by kernel_rfl) (by kernel_rfl) (by kernel_rfl) (fun _ _ _ h => h) (by rfl) ?_ hS0 ?_
        rotate_left
        · (intro W hW; obtain ⟨xl, x0, x1, x2, x3, x4, x5⟩ := nm_in (HX0.out.grew hW); go_simp; with_reducible rfl)
        refine held_take 6 (v := ?_) rfl (by kernel_rfl) (by kernel_rfl) (by kernel_rfl) (fun _ _ _ h => h) (by rfl) ?_ hS0 ?_
        rotate_left
        · (intro W hW; obtain ⟨xl, x0, x1, x2, x3, x4, x5⟩ := nm_in (HX0.out.grew hW); go_simp; with_reducible rfl)
        refine held_take 7 (v := ?_) rfl (by kernel_rfl) (by kernel_rfl) (by kernel_rfl) (fun _ _ _ h => h) (by rfl) ?_ hS0 ?_
        rotate_left
        · (intro W hW; obtain ⟨xl, x0, x1, x2, x3, x4, x5⟩ := nm_in (HX0.out.grew hW); go_simp; with_reducible rfl)
        refine held_take 8 (v := ?_) rfl (by kernel_rfl) (by kernel_rfl) (by kernel_rfl) (fun _ _ _ h => h) (by rfl) ?_ hS0 ?_
        rotate_left
        · (intro W hW; obtain ⟨xl, x0, x1, x2, x3, x4, x5⟩ := nm_in (HX0.out.grew hW); go_simp; with_reducible rfl)
        refine held_take 9 (v := ?_) rfl (by kernel_rfl) (by kernel_rfl) (by kernel_rfl) (fun _ _ _ h => h) (by rfl) ?_ hS0 ?_
        rotate_left
        · (intro W hW; obtain ⟨xl, x0, x1, x2, x3, x4, x5⟩ := nm_in (HX0.out.grew hW); go_simp; with_reducible rfl)
        refine held_take 10 (v := ?_) rfl (by kernel_rfl) (by kernel_rfl) (by kernel_rfl) (fun _ _ _ h => h) (by rfl) ?_ hS0 ?_
        rotate_left
        · (intro W hW; obtain ⟨xl, x0, x1, x2, x3, x4, x5⟩ := nm_in (HX0.out.grew hW); go_simp; with_reducible rfl)
        refine held_take 11 (v := ?_) rfl (by kernel_rfl) (by kernel_rfl) (by kernel_rfl) (fun _ _ _ h => h) (by rfl) ?_ hS0 ?_
        rotate_left
        · (intro W hW; obtain ⟨xl, x0, x1, x2, x3, x4, x5⟩ := nm_in (HX0.out.grew hW); go_simp; with_reducible rfl)
        refine held_norm (a' := ?_) ?_ ?_
        rotate_left
        · (go_simp; with_reducible rfl)
        refine held_done (by kernel_rfl) ?_
        have HG1 := Lib.hid (HG0.out.trans hS0)
        have HX1 := Lib.hid (HX0.out.grew hS0)
        clear hS0 HX0 HG0
        have HY1 : Hid (∀ W, Grew W0.drew W → Grew W0 W) := Lib.hid fun W hW => ((Grew.refl W0).drew).trans hW
        generalize W0.drew = W1 at *
        go_upto_region 7 with fail
        have hS1 : Grew W1 W1.drew := (Grew.refl W1).drew
        refine wp_region_S (fun W => Grew W1 W) (by kernel_rfl) ?_
        refine held_take 0 (v := ?_) rfl (by kernel_rfl) (by kernel_rfl) (by kernel_rfl) (fun _ _ _ h => h) (by rfl) ?_ hS1 ?_
        rotate_left
        · (intro W hW; obtain ⟨xl, x0, x1, x2, x3, x4, x5⟩ := nm_in (HX1.out.grew hW); obtain ⟨hb0, y0, y1, y2, y3, y4⟩ := HY.out _ (HY1.out _ hW); go_simp; with_reducible rfl)
        refine held_take 1 (v := ?_) rfl (by kernel_rfl) (by kernel_rfl) (by kernel_rfl) (fun _ _ _ h => h) (by rfl) ?_ hS1 ?_
        rotate_left
        · (intro W hW; obtain ⟨xl, x0, x1, x2, x3, x4, x5⟩ := nm_in (HX1.out.grew hW); obtain ⟨hb0, y0, y1, y2, y3, y4⟩ := HY.out _ (HY1.out _ hW); go_simp; with_reducible rfl)
        refine held_take 2 (v := ?_) rfl (by kernel_rfl) (by kernel_rfl) (by kernel_rfl) (fun _ _ _ h => h) (by rfl) ?_ hS1 ?_
        rotate_left
        · (intro W hW; obtain ⟨xl, x0, x1, x2, x3, x4, x5⟩ := nm_in (HX1.out.grew hW); obtain ⟨hb0, y0, y1, y2, y3, y4⟩ := HY.out _ (HY1.out _ hW); go_simp; with_reducible rfl)
        refine held_take 3 (v := ?_) rfl (by kernel_rfl) (by kernel_rfl) (by kernel_rfl) (fun _ _ _ h => h) (by rfl) ?_ hS1 ?_
        rotate_left
        · (intro W hW; obtain ⟨xl, x0, x1, x2, x3, x4, x5⟩ := nm_in (HX1.out.grew hW); obtain ⟨hb0, y0, y1, y2, y3, y4⟩ := HY.out _ (HY1.out _ hW); go_simp; with_reducible rfl)
        refine held_take 4 (v := ?_) rfl (by kernel_rfl) (by kernel_rfl) (by kernel_rfl) (fun _ _ _ h => h) (by rfl) ?_ hS1 ?_
        rotate_left
        · (intro W hW; obtain ⟨xl, x0, x1, x2, x3, x4, x5⟩ := nm_in (HX1.out.grew hW); obtain ⟨hb0, y0, y1, y2, y3, y4⟩ := HY.out _ (HY1.out _ hW); go_simp; with_reducible rfl)
        refine held_take 5 (v := ?_) rfl (by kernel_rfl) (by kernel_rfl) (by kernel_rfl) (fun _ _ _ h => h) (by rfl) ?_ hS1 ?_
        rotate_left
        · (intro W hW; obtain ⟨xl, x0, x1, x2, x3, x4, x5⟩ := nm_in (HX1.out.grew hW); obtain ⟨hb0, y0, y1, y2, y3, y4⟩ := HY.out _ (HY1.out _ hW); go_simp; with_reducible rfl)
        refine held_take 6 (v := ?_) rfl (by kernel_rfl) (by kernel_rfl) (by kernel_rfl) (fun _ _ _ h => h) (by rfl) ?_ hS1 ?_
        rotate_left
        · (intro W hW; obtain ⟨xl, x0, x1, x2, x3, x4, x5⟩ := nm_in (HX1.out.grew hW); obtain ⟨hb0, y0, y1, y2, y3, y4⟩ := HY.out _ (HY1.out _ hW); go_simp; with_reducible rfl)
        refine held_take 7 (v := ?_) rfl (by kernel_rfl) (by kernel_rfl) (by kernel_rfl) (fun _ _ _ h => h) (by rfl) ?_ hS1 ?_
        rotate_left
        · (intro W hW; obtain ⟨xl, x0, x1, x2, x3, x4, x5⟩ := nm_in (HX1.out.grew hW); obtain ⟨hb0, y0, y1, y2, y3, y4⟩ := HY.out _ (HY1.out _ hW); go_simp; with_reducible rfl)
        refine held_take 8 (v := ?_) rfl (by kernel_rfl) (by kernel_rfl) (by kernel_rfl) (fun _ _ _ h => h) (by rfl) ?_ hS1 ?_
        rotate_left
        · (intro W hW; obtain ⟨xl, x0, x1, x2, x3, x4, x5⟩ := nm_in (HX1.out.grew hW); obtain ⟨hb0, y0, y1, y2, y3, y4⟩ := HY.out _ (HY1.out _ hW); go_simp; with_reducible rfl)
        refine held_norm (a' := ?_) ?_ ?_
        rotate_left
        · (go_simp; with_reducible rfl)
        refine held_call 9 (by kernel_rfl) rfl (by rfl) (fun K hK => ?_)
        go_simp
        go_wp2_with ((go_at_call 57; (with_reducible refine (HKy1.out _ _ _ _ _ _ _ (HG1.out.trans hS1) (HKe.out _ (HY1.out _ hS1))).mono ?_); rintro e8 w8 ⟨va, vb, rfl, hg8, hb8⟩; have hS8 := hS1.trans hg8))
        refine hK.out _ _ hS8 ?_
        clear hK K
        refine held_take 10 (v := ?_) rfl (by kernel_rfl) (by kernel_rfl) (by kernel_rfl) (fun _ _ _ h => h) (by rfl) ?_ hS8 ?_
        rotate_left
        · (intro W hW; go_simp; with_reducible rfl)
        refine held_take 11 (v := ?_) rfl (by kernel_rfl) (by kernel_rfl) (by kernel_rfl) (fun _ _ _ h => h) (by rfl) ?_ hS8 ?_
        rotate_left
        · (intro W hW; go_simp; with_reducible rfl)
        refine held_take 12 (v := ?_) rfl (by kernel_rfl) (by kernel_rfl) (by kernel_rfl) (fun _ _ _ h => h) (by rfl) ?_ hS8 ?_
        rotate_left
        · (intro W hW; go_simp; with_reducible rfl)
        refine held_take 13 (v := ?_) rfl (by kernel_rfl) (by kernel_rfl) (by kernel_rfl) (fun _ _ _ h => h) (by rfl) ?_ hS8 ?_
        rotate_left
        · (intro W hW; go_simp; with_reducible rfl)
        refine held_take 14 (v := ?_) rfl (by kernel_rfl) (by kernel_rfl) (by kernel_rfl) (fun _ _ _ h => h) (by rfl) ?_ hS8 ?_
        rotate_left
        · (intro W hW; go_simp; with_reducible rfl)
        refine held_norm (a' := ?_) ?_ ?_
        rotate_left
        · (go_simp; with_reducible rfl)
        refine held_done (by kernel_rfl) ?_
        have HGf := Lib.hid (HG1.out.trans hS8)
        have HRf := Lib.hid ((hb8.low (u := w) (HG1.out.trans hS1).size).swap)
        clear hS8 hb8 hg8 hS1
        go_wp2_with fail
        go_ret2
        exact ⟨_, _, rfl, HGf.out, HRf.out⟩
    · by_cases h2 : t < n
      · obtain ⟨i, rfl⟩ : ∃ i, f = n + i := ⟨f - n, by omega⟩
        have hi : i < l.length := by omega
        have hF : fin = keyP (clI R) n l[i].keys t := by rw [← HFi.out, betP, if_pos ⟨⟨by omega, by omega⟩, by omega⟩, getD_at hi]
        subst hF
        have t5 : (((n + i : Nat) : Int) == (t : Int)) = false := by rw [beq_eq_false_iff_ne]; omega
        have t6 : decide ((n : Int) ≤ ((n + i : Nat) : Int)) = true := decide_eq_true (by omega)
        have t7 : decide ((n : Int) ≤ (t : Int)) = false := decide_eq_false (by omega)
        have t8 : IntKind.i64.wrap (((n + i : Nat) : Int) - (n : Int)) = (i : Int) := by rw [IntWalk.i64_in _ (by omega)]; omega
        have hil : (i : Int) < (l.length : Int) := by omega
        have HKy1 : Hid (∀ K kk S ss T tt W, Grew w W → EdsR (PRow W) K l[i].keys → Calls Try.prog 57 #[.agg #[.int .i64 core, .slice A n k, .slice B ne j, .slice C p c, .slice D l.length d, .slice E qn en], .agg #[.int .i64 l[i].table, .int .i64 l[i].join, .slice K l[i].keys.length kk, .slice S l[i].scan.length ss, .slice T l[i].rest.length tt], .int .i64 t] W (BetF W (keyP (clI R) n l[i].keys t))) := Lib.hid fun K kk S ss T tt W hW hK => HKy.out t i hi K kk S ss T tt W (by omega) hW hK
        obtain ⟨b, o, K, k', S2, s2, T2, r2, rfl, hb0, y0, y1, y2, y3, y4, hk0, _, _⟩ := lasR_at (HR.out.grew HG0.out) hi
        have HY : Hid (∀ W, Grew W0 W → b < W.heap.size ∧ W.cell? ⟨b, o + i * 5, none⟩ = some (.int .i64 l[i].table) ∧ W.cell? ⟨b, o + i * 5 + 1, none⟩ = some (.int .i64 l[i].join) ∧ W.cell? ⟨b, o + i * 5 + 2, none⟩ = some (.slice K l[i].keys.length k') ∧ W.cell? ⟨b, o + i * 5 + 3, none⟩ = some (.slice S2 l[i].scan.length s2) ∧ W.cell? ⟨b, o + i * 5 + 4, none⟩ = some (.slice T2 l[i].rest.length r2)) := Lib.hid fun W hW => ⟨Nat.lt_of_lt_of_le hb0 hW.size, cell_keep hW hb0 y0, cell_keep hW hb0 y1, cell_keep hW hb0 y2, cell_keep hW hb0 y3, cell_keep hW hb0 y4⟩
        have HKe : Hid (∀ W, Grew W0 W → EdsR (PRow W) K l[i].keys) := Lib.hid fun W hW => hk0.grew hW
        clear hb0 y0 y1 y2 y3 y4 hk0 HFi HKy HCo HCl HR hf ht hn hl
        generalize ((n + i : Nat) : Int) = z at *
        generalize l[i] = x at *
        clear hi
        go_enter Try.func32, Try.ntmps32
        go_upto_region 1 with fail
        rw [← hW0]
        clear hW0
        generalize w.heap.size = bx at *
        have hS0 : Grew W0 W0.drew := (Grew.refl W0).drew
        refine wp_region_S (fun W => Grew W0 W) (by kernel_rfl) ?_
        refine held_take 0 (v := ?_) rfl (by kernel_rfl) (by kernel_rfl) (by kernel_rfl) (fun _ _ _ h => h) (by rfl) ?_ hS0 ?_
        rotate_left
        · (intro W hW; obtain ⟨xl, x0, x1, x2, x3, x4, x5⟩ := nm_in (HX0.out.grew hW); go_simp; with_reducible rfl)
        refine held_take 1 (v := ?_) rfl (by kernel_rfl) (by kernel_rfl) (by kernel_rfl) (fun _ _ _ h => h) (by rfl) ?_ hS0 ?_
        rotate_left
        · (intro W hW; obtain ⟨xl, x0, x1, x2, x3, x4, x5⟩ := nm_in (HX0.out.grew hW); go_simp; with_reducible rfl)
        refine held_take 2 (v := ?_) rfl (by kernel_rfl) (by kernel_rfl) (by kernel_rfl) (fun _ _ _ h => h) (by rfl) ?_ hS0 ?_
        rotate_left
        · (intro W hW; obtain ⟨xl, x0, x1, x2, x3, x4, x5⟩ := nm_in (HX0.out.grew hW); go_simp; with_reducible rfl)
        refine held_take 3 (v := ?_) rfl (by kernel_rfl) (by kernel_rfl) (by kernel_rfl) (fun _ _ _ h => h) (by rfl) ?_ hS0 ?_
        rotate_left
        · (intro W hW; obtain ⟨xl, x0, x1, x2, x3, x4, x5⟩ := nm_in (HX0.out.grew hW); go_simp; with_reducible rfl)
        refine held_take 4 (v := ?_) rfl (by kernel_rfl) (by kernel_rfl) (by kernel_rfl) (fun _ _ _ h => h) (by rfl) ?_ hS0 ?_
        rotate_left
        · (intro W hW; obtain ⟨xl, x0, x1, x2, x3, x4, x5⟩ := nm_in (HX0.out.grew hW); go_simp; with_reducible rfl)
        refine held_take 5 (v := ?_) rfl (by kernel_rfl) (by kernel_rfl) (by kernel_rfl) (fun _ _ _ h => h) (by rfl) ?_ hS0 ?_
        rotate_left
        · (intro W hW; obtain ⟨xl, x0, x1, x2, x3, x4, x5⟩ := nm_in (HX0.out.grew hW); go_simp; with_reducible rfl)
        refine held_take 6 (v := ?_) rfl (by kernel_rfl) (by kernel_rfl) (by kernel_rfl) (fun _ _ _ h => h) (by rfl) ?_ hS0 ?_
        rotate_left
        · (intro W hW; obtain ⟨xl, x0, x1, x2, x3, x4, x5⟩ := nm_in (HX0.out.grew hW); go_simp; with_reducible rfl)
        refine held_take 7 (v := ?_) rfl (by kernel_rfl) (by kernel_rfl) (by kernel_rfl) (fun _ _ _ h => h) (by rfl) ?_ hS0 ?_
        rotate_left
        · (intro W hW; obtain ⟨xl, x0, x1, x2, x3, x4, x5⟩ := nm_in (HX0.out.grew hW); go_simp; with_reducible rfl)
        refine held_take 8 (v := ?_) rfl (by kernel_rfl) (by kernel_rfl) (by kernel_rfl) (fun _ _ _ h => h) (by rfl) ?_ hS0 ?_
        rotate_left
        · (intro W hW; obtain ⟨xl, x0, x1, x2, x3, x4, x5⟩ := nm_in (HX0.out.grew hW); go_simp; with_reducible rfl)
        refine held_take 9 (v := ?_) rfl (by kernel_rfl) (by kernel_rfl) (by kernel_rfl) (fun _ _ _ h => h) (by rfl) ?_ hS0 ?_
        rotate_left
        · (intro W hW; obtain ⟨xl, x0, x1, x2, x3, x4, x5⟩ := nm_in (HX0.out.grew hW); go_simp; with_reducible rfl)
        refine held_take 10 (v := ?_) rfl (by kernel_rfl) (by kernel_rfl) (by kernel_rfl) (fun _ _ _ h => h) (by rfl) ?_ hS0 ?_
        rotate_left
        · (intro W hW; obtain ⟨xl, x0, x1, x2, x3, x4, x5⟩ := nm_in (HX0.out.grew hW); go_simp; with_reducible rfl)
        refine held_take 11 (v := ?_) rfl (by kernel_rfl) (by kernel_rfl) (by kernel_rfl) (fun _ _ _ h => h) (by rfl) ?_ hS0 ?_
        rotate_left
        · (intro W hW; obtain ⟨xl, x0, x1, x2, x3, x4, x5⟩ := nm_in (HX0.out.grew hW); go_simp; with_reducible rfl)
        refine held_norm (a' := ?_) ?_ ?_
        rotate_left
        · (go_simp; with_reducible rfl)
        refine held_done (by kernel_rfl) ?_
        have HG1 := Lib.hid (HG0.out.trans hS0)
        have HX1 := Lib.hid (HX0.out.grew hS0)
        clear hS0 HX0 HG0
        have HY1 : Hid (∀ W, Grew W0.drew W → Grew W0 W) := Lib.hid fun W hW => ((Grew.refl W0).drew).trans hW
        generalize W0.drew = W1 at *
        go_upto_region 5 with fail
        have hS1 : Grew W1 W1.drew := (Grew.refl W1).drew
        refine wp_region_S (fun W => Grew W1 W) (by kernel_rfl) ?_
        refine held_take 0 (v := ?_) rfl (by kernel_rfl) (by kernel_rfl) (by kernel_rfl) (fun _ _ _ h => h) (by rfl) ?_ hS1 ?_
        rotate_left
        · (intro W hW; obtain ⟨xl, x0, x1, x2, x3, x4, x5⟩ := nm_in (HX1.out.grew hW); obtain ⟨hb0, y0, y1, y2, y3, y4⟩ := HY.out _ (HY1.out _ hW); go_simp; with_reducible rfl)
        refine held_take 1 (v := ?_) rfl (by kernel_rfl) (by kernel_rfl) (by kernel_rfl) (fun _ _ _ h => h) (by rfl) ?_ hS1 ?_
        rotate_left
        · (intro W hW; obtain ⟨xl, x0, x1, x2, x3, x4, x5⟩ := nm_in (HX1.out.grew hW); obtain ⟨hb0, y0, y1, y2, y3, y4⟩ := HY.out _ (HY1.out _ hW); go_simp; with_reducible rfl)
        refine held_take 2 (v := ?_) rfl (by kernel_rfl) (by kernel_rfl) (by kernel_rfl) (fun _ _ _ h => h) (by rfl) ?_ hS1 ?_
        rotate_left
        · (intro W hW; obtain ⟨xl, x0, x1, x2, x3, x4, x5⟩ := nm_in (HX1.out.grew hW); obtain ⟨hb0, y0, y1, y2, y3, y4⟩ := HY.out _ (HY1.out _ hW); go_simp; with_reducible rfl)
        refine held_take 3 (v := ?_) rfl (by kernel_rfl) (by kernel_rfl) (by kernel_rfl) (fun _ _ _ h => h) (by rfl) ?_ hS1 ?_
        rotate_left
        · (intro W hW; obtain ⟨xl, x0, x1, x2, x3, x4, x5⟩ := nm_in (HX1.out.grew hW); obtain ⟨hb0, y0, y1, y2, y3, y4⟩ := HY.out _ (HY1.out _ hW); go_simp; with_reducible rfl)
        refine held_take 4 (v := ?_) rfl (by kernel_rfl) (by kernel_rfl) (by kernel_rfl) (fun _ _ _ h => h) (by rfl) ?_ hS1 ?_
        rotate_left
        · (intro W hW; obtain ⟨xl, x0, x1, x2, x3, x4, x5⟩ := nm_in (HX1.out.grew hW); obtain ⟨hb0, y0, y1, y2, y3, y4⟩ := HY.out _ (HY1.out _ hW); go_simp; with_reducible rfl)
        refine held_take 5 (v := ?_) rfl (by kernel_rfl) (by kernel_rfl) (by kernel_rfl) (fun _ _ _ h => h) (by rfl) ?_ hS1 ?_
        rotate_left
        · (intro W hW; obtain ⟨xl, x0, x1, x2, x3, x4, x5⟩ := nm_in (HX1.out.grew hW); obtain ⟨hb0, y0, y1, y2, y3, y4⟩ := HY.out _ (HY1.out _ hW); go_simp; with_reducible rfl)
        refine held_take 6 (v := ?_) rfl (by kernel_rfl) (by kernel_rfl) (by kernel_rfl) (fun _ _ _ h => h) (by rfl) ?_ hS1 ?_
        rotate_left
        · (intro W hW; obtain ⟨xl, x0, x1, x2, x3, x4, x5⟩ := nm_in (HX1.out.grew hW); obtain ⟨hb0, y0, y1, y2, y3, y4⟩ := HY.out _ (HY1.out _ hW); go_simp; with_reducible rfl)
        refine held_take 7 (v := ?_) rfl (by kernel_rfl) (by kernel_rfl) (by kernel_rfl) (fun _ _ _ h => h) (by rfl) ?_ hS1 ?_
        rotate_left
        · (intro W hW; obtain ⟨xl, x0, x1, x2, x3, x4, x5⟩ := nm_in (HX1.out.grew hW); obtain ⟨hb0, y0, y1, y2, y3, y4⟩ := HY.out _ (HY1.out _ hW); go_simp; with_reducible rfl)
        refine held_take 8 (v := ?_) rfl (by kernel_rfl) (by kernel_rfl) (by kernel_rfl) (fun _ _ _ h => h) (by rfl) ?_ hS1 ?_
        rotate_left
        · (intro W hW; obtain ⟨xl, x0, x1, x2, x3, x4, x5⟩ := nm_in (HX1.out.grew hW); obtain ⟨hb0, y0, y1, y2, y3, y4⟩ := HY.out _ (HY1.out _ hW); go_simp; with_reducible rfl)
        refine held_norm (a' := ?_) ?_ ?_
        rotate_left
        · (go_simp; with_reducible rfl)
        refine held_call 9 (by kernel_rfl) rfl (by rfl) (fun K hK => ?_)
        go_simp
        go_wp2_with ((go_at_call 57; (with_reducible refine (HKy1.out _ _ _ _ _ _ _ (HG1.out.trans hS1) (HKe.out _ (HY1.out _ hS1))).mono ?_); rintro e8 w8 ⟨va, vb, rfl, hg8, hb8⟩; have hS8 := hS1.trans hg8))
        refine hK.out _ _ hS8 ?_
        clear hK K
        refine held_take 10 (v := ?_) rfl (by kernel_rfl) (by kernel_rfl) (by kernel_rfl) (fun _ _ _ h => h) (by rfl) ?_ hS8 ?_
        rotate_left
        · (intro W hW; go_simp; with_reducible rfl)
        refine held_take 11 (v := ?_) rfl (by kernel_rfl) (by kernel_rfl) (by kernel_rfl) (fun _ _ _ h => h) (by rfl) ?_ hS8 ?_
        rotate_left
        · (intro W hW; go_simp; with_reducible rfl)
        refine held_take 12 (v := ?_) rfl (by kernel_rfl) (by kernel_rfl) (by kernel_rfl) (fun _ _ _ h => h) (by rfl) ?_ hS8 ?_
        rotate_left
        · (intro W hW; go_simp; with_reducible rfl)
        refine held_take 13 (v := ?_) rfl (by kernel_rfl) (by kernel_rfl) (by kernel_rfl) (fun _ _ _ h => h) (by rfl) ?_ hS8 ?_
        rotate_left
        · (intro W hW; go_simp; with_reducible rfl)
        refine held_norm (a' := ?_) ?_ ?_
        rotate_left
        · (go_simp; with_reducible rfl)
        refine held_done (by kernel_rfl) ?_
        have HGf := Lib.hid (HG1.out.trans hS8)
        have HRf := Lib.hid ((hb8.low (u := w) (HG1.out.trans hS1).size))
        clear hS8 hb8 hg8 hS1
        go_wp2_with fail
        go_ret2
        exact ⟨_, _, rfl, HGf.out, HRf.out⟩
      · have hF : fin = [] := by rw [← HFi.out, betP, if_neg (by omega), if_neg (by omega), if_neg (by omega)]
        subst hF
        have t5 : ((f : Int) == (t : Int)) = false := by rw [beq_eq_false_iff_ne]; omega
        have t6 : decide ((n : Int) ≤ (f : Int)) = true := decide_eq_true (by omega)
        have t7 : decide ((n : Int) ≤ (t : Int)) = true := decide_eq_true (by omega)
        clear HFi HKy HCo HCl HR hf ht
        go_enter Try.func32, Try.ntmps32
        go_upto_region 1 with fail
        rw [← hW0]
        clear hW0
        generalize w.heap.size = bx at *
        have hS0 : Grew W0 W0.drew := (Grew.refl W0).drew
        refine wp_region_S (fun W => Grew W0 W) (by kernel_rfl) ?_
        refine held_take 0 (v := ?_) rfl (by kernel_rfl) (by kernel_rfl) (by kernel_rfl) (fun _ _ _ h => h) (by rfl) ?_ hS0 ?_
        rotate_left
        · (intro W hW; obtain ⟨xl, x0, x1, x2, x3, x4, x5⟩ := nm_in (HX0.out.grew hW); go_simp; with_reducible rfl)
        refine held_take 1 (v := ?_) rfl (by kernel_rfl) (by kernel_rfl) (by kernel_rfl) (fun _ _ _ h => h) (by rfl) ?_ hS0 ?_
        rotate_left
        · (intro W hW; obtain ⟨xl, x0, x1, x2, x3, x4, x5⟩ := nm_in (HX0.out.grew hW); go_simp; with_reducible rfl)
        refine held_take 2 (v := ?_) rfl (by kernel_rfl) (by kernel_rfl) (by kernel_rfl) (fun _ _ _ h => h) (by rfl) ?_ hS0 ?_
        rotate_left
        · (intro W hW; obtain ⟨xl, x0, x1, x2, x3, x4, x5⟩ := nm_in (HX0.out.grew hW); go_simp; with_reducible rfl)
        refine held_take 3 (v := ?_) rfl (by kernel_rfl) (by kernel_rfl) (by kernel_rfl) (fun _ _ _ h => h) (by rfl) ?_ hS0 ?_
        rotate_left
        · (intro W hW; obtain ⟨xl, x0, x1, x2, x3, x4, x5⟩ := nm_in (HX0.out.grew hW); go_simp; with_reducible rfl)
        refine held_take 4 (v := ?_) rfl (by kernel_rfl) (by kernel_rfl) (by kernel_rfl) (fun _ _ _ h => h) (by rfl) ?_ hS0 ?_
        rotate_left
        · (intro W hW; obtain ⟨xl, x0, x1, x2, x3, x4, x5⟩ := nm_in (HX0.out.grew hW); go_simp; with_reducible rfl)
        refine held_take 5 (v := ?_) rfl (by kernel_rfl) (by kernel_rfl) (by kernel_rfl) (fun _ _ _ h => h) (by rfl) ?_ hS0 ?_
        rotate_left
        · (intro W hW; obtain ⟨xl, x0, x1, x2, x3, x4, x5⟩ := nm_in (HX0.out.grew hW); go_simp; with_reducible rfl)
        refine held_take 6 (v := ?_) rfl (by kernel_rfl) (by kernel_rfl) (by kernel_rfl) (fun _ _ _ h => h) (by rfl) ?_ hS0 ?_
        rotate_left
        · (intro W hW; obtain ⟨xl, x0, x1, x2, x3, x4, x5⟩ := nm_in (HX0.out.grew hW); go_simp; with_reducible rfl)
        refine held_take 7 (v := ?_) rfl (by kernel_rfl) (by kernel_rfl) (by kernel_rfl) (fun _ _ _ h => h) (by rfl) ?_ hS0 ?_
        rotate_left
        · (intro W hW; obtain ⟨xl, x0, x1, x2, x3, x4, x5⟩ := nm_in (HX0.out.grew hW); go_simp; with_reducible rfl)
        refine held_take 8 (v := ?_) rfl (by kernel_rfl) (by kernel_rfl) (by kernel_rfl) (fun _ _ _ h => h) (by rfl) ?_ hS0 ?_
        rotate_left
        · (intro W hW; obtain ⟨xl, x0, x1, x2, x3, x4, x5⟩ := nm_in (HX0.out.grew hW); go_simp; with_reducible rfl)
        refine held_take 9 (v := ?_) rfl (by kernel_rfl) (by kernel_rfl) (by kernel_rfl) (fun _ _ _ h => h) (by rfl) ?_ hS0 ?_
        rotate_left
        · (intro W hW; obtain ⟨xl, x0, x1, x2, x3, x4, x5⟩ := nm_in (HX0.out.grew hW); go_simp; with_reducible rfl)
        refine held_take 10 (v := ?_) rfl (by kernel_rfl) (by kernel_rfl) (by kernel_rfl) (fun _ _ _ h => h) (by rfl) ?_ hS0 ?_
        rotate_left
        · (intro W hW; obtain ⟨xl, x0, x1, x2, x3, x4, x5⟩ := nm_in (HX0.out.grew hW); go_simp; with_reducible rfl)
        refine held_take 11 (v := ?_) rfl (by kernel_rfl) (by kernel_rfl) (by kernel_rfl) (fun _ _ _ h => h) (by rfl) ?_ hS0 ?_
        rotate_left
        · (intro W hW; obtain ⟨xl, x0, x1, x2, x3, x4, x5⟩ := nm_in (HX0.out.grew hW); go_simp; with_reducible rfl)
        refine held_norm (a' := ?_) ?_ ?_
        rotate_left
        · (go_simp; with_reducible rfl)
        refine held_done (by kernel_rfl) ?_
        have HG1 := Lib.hid (HG0.out.trans hS0)
        have HX1 := Lib.hid (HX0.out.grew hS0)
        clear hS0 HX0 HG0
        generalize W0.drew = W1 at *
        go_wp2_with fail
        have HGf := HG1
        have HRf := Lib.hid (BetR.nil w W1)
        go_ret2
        exact ⟨_, _, rfl, HGf.out, HRf.out⟩
end Go.Proofs.Ytoaciliojdaoaaa

namespace Go.Proofs.Ytoaciliojdaoaaa
open Go.RowKit
attribute [local go_sem] more_cell more_frozen more_more more_setCell more_of_drew more_of_drewN lt_more le_more past_cell past_cell2 past_frozen past_frozen2 past_setCell past_setCell2 mid_cell mid_frozen mid_setCell
attribute [local go_sem ↓] Go.wp_at_zero Go.wp_at_succ

set_option maxHeartbeats 16000000 in
set_option maxRecDepth 100000 in
theorem rall31_any (core : Int) (es : List Ed) (l : List La) (order : List Int) (S : Option Addr) (ks : Nat) (A : Option Addr) (n k : Nat) (B : Option Addr) (j : Nat) (C : Option Addr) (p c : Nat) (D : Option Addr) (d : Nat) (E : Option Addr) (qn en : Nat) (w : World) (hM : n + l.length ≤ 1000) (hes : es.length ≤ 3000) (hks : ∀ x ∈ l, x.keys.length ≤ 3000) (ho : order.length ≤ 1000000)
    (hr : LasR (PRow w) D l) (he : EdsR (PRow w) B es) (hs : Row w S (iV order)) :
    Calls Try.prog 11 #[.agg (nqC core A n k B es.length j C p c D l.length d E qn en), .slice S order.length ks] w (FlsF w ((allI (clI (clsE es)) n l order).map fvF)) := by
  have HRk : Hid (∀ (t : Nat) W, t < n + l.length → Grew w W → Gives Try.prog 12 #[.agg (nqC core A n k B es.length j C p c D l.length d E qn en), .slice S order.length ks, .int .i64 t] W (.int .i64 (rankI n (jsI l) order t))) := Lib.hid fun t W h1 h2 => rrank31_any core l order S ks t A n k B es.length j C p c D d E qn en W (by omega) (by omega) ho h1 (hr.grew h2) (hs.grew h2)
  have HBt : Hid (∀ (f t : Nat) W, f < n + l.length → t < n + l.length → Grew w W → Calls Try.prog 32 #[.agg (nqC core A n k B es.length j C p c D l.length d E qn en), .int .i64 f, .int .i64 t] W (BetF W (betP (clI (clsE es)) n l f t))) := Lib.hid fun f t W h1 h2 h3 => rbetween31_any core es l f t A n k B j C p c D d E qn en W (by omega) (by omega) hes hks h1 h2 (hr.grew h3) (he.grew h3)
  have HRs := Lib.hid hs
  clear hr he hs hks hes
  generalize es.length = ne at *
  generalize clI (clsE es) = cl at *
  obtain ⟨ol, hol⟩ : ∃ ol, order.length = ol := ⟨_, rfl⟩
  rw [hol] at HRk ho ⊢
  have HOl := Lib.hid hol
  clear hol
  obtain ⟨W0, hW0⟩ : ∃ W0, W0 = w.alloc (.cells (nqC core A n k B ne j C p c D l.length d E qn en) 37) := ⟨_, rfl⟩
  have HG0 : Hid (Grew w W0) := Lib.hid (by rw [hW0]; exact (Grew.refl w).alloc _)
  have HX0 : Hid (Blok W0 w.heap.size 37 (nqC core A n k B ne j C p c D l.length d E qn en)) := Lib.hid (by rw [hW0]; exact Blok.new _ _ _ _ rfl)
  unfold nqC at *
  obtain ⟨M, hMe⟩ : ∃ M, n + l.length = M := ⟨_, rfl⟩
  have HAl : Hid (allI cl n l order = flsI cl n l order M) := Lib.hid (by rw [← hMe]; rfl)
  rw [HAl.out]
  have HFu : Hid (∀ q, flL cl n l order q M = flL cl n l order (q + 1) 0) := Lib.hid fun q => by rw [← hMe, flL_zero]; exact flL_full
  have HLn : Hid (∀ q m, q ≤ M → m ≤ M → (flL cl n l order q m).length ≤ 1001000) := Lib.hid fun q m h1 h2 => flL_len (by omega) (by omega) (by omega)
  have hsum : IntKind.i64.wrap ((n : Int) + (l.length : Int)) = (M : Int) := by rw [IntWalk.i64_in _ (by omega)]; omega
  rw [hMe] at HRk HBt hM
  clear hMe HAl
  go_enter Try.func11, Try.ntmps11
  go_upto_region 1 with fail
  rw [← hW0]
  clear hW0
  generalize w.heap.size = bx at *
  go_wp2_with fail
  go_loopw [5, 6] (fun v i wr => AlO W0 cl n l order M v i wr) (fun _ i _ => M - (intOf i).toNat)
  case atStart => exact ⟨0, none, 0, [], Nat.zero_le _, rfl, rfl, GatF.nil W0⟩
  case round =>
    obtain ⟨q, A1, c1, css1, hq, rfl, rfl, hG⟩ := hrel
    have HGo := Lib.hid hG
    clear hG
    obtain ⟨xl, x0, x1, x2, x3, x4, x5⟩ := nm_in (HX0.out.grew HGo.out.grew)
    by_cases hlt : q < M
    · have HR1 : Hid (∀ W, Grew w W → Gives Try.prog 12 #[.agg #[.int .i64 core, .slice A n k, .slice B ne j, .slice C p c, .slice D l.length d, .slice E qn en], .slice S ol ks, .int .i64 q] W (.int .i64 (rankI n (jsI l) order q))) := Lib.hid fun W hW => HRk.out q W hlt hW
      obtain ⟨low, hlow⟩ : ∃ low, rankI n (jsI l) order q = low := ⟨_, rfl⟩
      have HLow := Lib.hid hlow
      rw [hlow] at HR1
      clear hlow
      have hql : (q : Int) < (M : Int) := by omega
      have hqd : decide ((q : Int) < (M : Int)) = true := decide_eq_true hql
      go_wp2_with fail
      clear xl x0 x1 x2 x3 x4 x5
      go_loopw [5, 7] (fun v i wr => AlN W0 cl n l order M q v i wr) (fun _ i _ => M - (intOf i).toNat)
      case atStart => exact ⟨0, A1, c1, css1, Nat.zero_le _, rfl, rfl, HGo.out⟩
      case round =>
        obtain ⟨m, A2, c2, css2, hm, rfl, rfl, hG⟩ := hrel
        have HG := Lib.hid hG
        clear hG
        have hle := HLn.out q m (by omega) hm
        obtain ⟨xl, x0, x1, x2, x3, x4, x5⟩ := nm_in (HX0.out.grew HG.out.grew)
        by_cases hlm : m < M
        · have hml : (m : Int) < (M : Int) := by omega
          have hmd : decide ((m : Int) < (M : Int)) = true := decide_eq_true hml
          have HSk : Hid (flB cl n l order m q = none → flL cl n l order q (m + 1) = flL cl n l order q m) := Lib.hid fun h => flL_skip h
          have HPu : Hid (∀ x, flB cl n l order m q = some x → flL cl n l order q (m + 1) = flL cl n l order q m ++ [fvF x]) := Lib.hid fun x h => flL_put h
          have HR2 : Hid (∀ W, Grew w W → Gives Try.prog 12 #[.agg #[.int .i64 core, .slice A n k, .slice B ne j, .slice C p c, .slice D l.length d, .slice E qn en], .slice S ol ks, .int .i64 m] W (.int .i64 (rankI n (jsI l) order m))) := Lib.hid fun W hW => HRk.out m W hlm hW
          have HB2 : Hid (∀ W, Grew w W → Calls Try.prog 32 #[.agg #[.int .i64 core, .slice A n k, .slice B ne j, .slice C p c, .slice D l.length d, .slice E qn en], .int .i64 m, .int .i64 q] W (BetF W (betP cl n l m q))) := Lib.hid fun W hW => HBt.out m q W hlm hlt hW
          have HLo : Hid (low < 0 → flB cl n l order m q = none) := Lib.hid fun h => flB_low (by rw [HLow.out]; exact h)
          have HDr : Hid (order.head? = some (m : Int) → flB cl n l order m q = none) := Lib.hid fun h => flB_drv h
          have HRa : Hid (rankI n (jsI l) order m ≤ low → flB cl n l order m q = none) := Lib.hid fun h => flB_rank (by rw [HLow.out]; exact h)
          have HBe : Hid (betP cl n l m q = [] → flB cl n l order m q = none) := Lib.hid fun h => flB_bet h
          have HPt : Hid (¬ low < 0 → ¬ order.head? = some (m : Int) → ¬ rankI n (jsI l) order m ≤ low → ¬ betP cl n l m q = [] → flB cl n l order m q = some ⟨m, q, betP cl n l m q⟩) := Lib.hid fun h1 h2 h3 h4 => flB_put (by rw [HLow.out]; exact h1) h2 (by rw [HLow.out]; exact h3) h4
          generalize rankI n (jsI l) order m = rk at *
          generalize flB cl n l order m q = fb at *
          generalize betP cl n l m q = bp at *
          have hz : order.head? = none ∨ (order.head? = some (m : Int)) ∨ (∃ y, order.head? = some y ∧ ¬ y = m) := by
            cases ho : order.head? with
            | none => exact Or.inl rfl
            | some y =>
              by_cases hy : y = m
              · exact Or.inr (Or.inl (by rw [hy]))
              · exact Or.inr (Or.inr ⟨y, rfl, hy⟩)
          have HXm := Lib.hid (HX0.out.grew HG.out.grew)
          rcases hz with hz | hz | ⟨y, hz, hy⟩
          · have h0 : ol = 0 := by rw [← HOl.out]; cases order with | nil => rfl | cons a t => simp at hz
            subst h0
            have HZz := Lib.hid hz
            clear hz
            by_cases hlo : low < 0
            · have e2 : decide (low < (0 : Int)) = true := decide_eq_true hlo
              have HLx := Lib.hid (HSk.out (HLo.out hlo))
              clear HSk HPu HR2 HB2 HLo HDr HRa HBe HPt
              go_upto_region 8 with fail
              clear xl x0 x1 x2 x3 x4 x5
              have hS0 : Grew wr wr.drew := (Grew.refl wr).drew
              refine wp_region_S (fun W => Grew wr W) (by kernel_rfl) ?_
              refine held_take 0 (v := ?_) rfl (by kernel_rfl) (by kernel_rfl) (by kernel_rfl) (fun _ _ _ h => h) (by rfl) ?_ hS0 ?_
              rotate_left
              · (intro W hW; skip; go_simp; with_reducible rfl)
              refine held_take 1 (v := ?_) rfl (by kernel_rfl) (by kernel_rfl) (by kernel_rfl) (fun _ _ _ h => h) (by rfl) ?_ hS0 ?_
              rotate_left
              · (intro W hW; skip; go_simp; with_reducible rfl)
              refine held_take 2 (v := ?_) rfl (by kernel_rfl) (by kernel_rfl) (by kernel_rfl) (fun _ _ _ h => h) (by rfl) ?_ hS0 ?_
              rotate_left
              · (intro W hW; skip; go_simp; with_reducible rfl)
              refine held_take 3 (v := ?_) rfl (by kernel_rfl) (by kernel_rfl) (by kernel_rfl) (fun _ _ _ h => h) (by rfl) ?_ hS0 ?_
              rotate_left
              · (intro W hW; skip; go_simp; with_reducible rfl)
              refine held_norm (a' := ?_) ?_ ?_
              rotate_left
              · (go_simp; with_reducible rfl)
              refine held_skip 4 rfl (by kernel_rfl) (by kernel_rfl) (by kernel_rfl) (fun _ _ _ h => h) (by rfl) hS0 ?_
              refine held_norm (a' := ?_) ?_ ?_
              rotate_left
              · (go_simp; with_reducible rfl)
              refine held_skip 5 rfl (by kernel_rfl) (by kernel_rfl) (by kernel_rfl) (fun _ _ _ h => h) (by rfl) hS0 ?_
              refine held_norm (a' := ?_) ?_ ?_
              rotate_left
              · (go_simp; with_reducible rfl)
              refine held_skip 6 rfl (by kernel_rfl) (by kernel_rfl) (by kernel_rfl) (fun _ _ _ h => h) (by rfl) hS0 ?_
              refine held_norm (a' := ?_) ?_ ?_
              rotate_left
              · (go_simp; with_reducible rfl)
              refine held_skip 7 rfl (by kernel_rfl) (by kernel_rfl) (by kernel_rfl) (fun _ _ _ h => h) (by rfl) hS0 ?_
              refine held_norm (a' := ?_) ?_ ?_
              rotate_left
              · (go_simp; with_reducible rfl)
              refine held_skip 8 rfl (by kernel_rfl) (by kernel_rfl) (by kernel_rfl) (fun _ _ _ h => h) (by rfl) hS0 ?_
              refine held_norm (a' := ?_) ?_ ?_
              rotate_left
              · (go_simp; with_reducible rfl)
              refine held_take 9 (v := ?_) rfl (by kernel_rfl) (by kernel_rfl) (by kernel_rfl) (fun _ _ _ h => h) (by rfl) ?_ hS0 ?_
              rotate_left
              · (intro W hW; skip; go_simp; with_reducible rfl)
              refine held_take 10 (v := ?_) rfl (by kernel_rfl) (by kernel_rfl) (by kernel_rfl) (fun _ _ _ h => h) (by rfl) ?_ hS0 ?_
              rotate_left
              · (intro W hW; skip; go_simp; with_reducible rfl)
              refine held_norm (a' := ?_) ?_ ?_
              rotate_left
              · (go_simp; with_reducible rfl)
              refine held_take 11 (v := ?_) rfl (by kernel_rfl) (by kernel_rfl) (by kernel_rfl) (fun _ _ _ h => h) (by rfl) ?_ hS0 ?_
              rotate_left
              · (intro W hW; obtain ⟨xl, x0, x1, x2, x3, x4, x5⟩ := nm_in (HXm.out.grew hW); go_simp; with_reducible rfl)
              refine held_take 12 (v := ?_) rfl (by kernel_rfl) (by kernel_rfl) (by kernel_rfl) (fun _ _ _ h => h) (by rfl) ?_ hS0 ?_
              rotate_left
              · (intro W hW; obtain ⟨xl, x0, x1, x2, x3, x4, x5⟩ := nm_in (HXm.out.grew hW); go_simp; with_reducible rfl)
              refine held_take 13 (v := ?_) rfl (by kernel_rfl) (by kernel_rfl) (by kernel_rfl) (fun _ _ _ h => h) (by rfl) ?_ hS0 ?_
              rotate_left
              · (intro W hW; obtain ⟨xl, x0, x1, x2, x3, x4, x5⟩ := nm_in (HXm.out.grew hW); go_simp; with_reducible rfl)
              refine held_norm (a' := ?_) ?_ ?_
              rotate_left
              · (go_simp; with_reducible rfl)
              refine held_call 14 (by kernel_rfl) rfl (by rfl) (fun K hK => ?_)
              go_simp
              go_wp2_with ((go_at_call 12; (with_reducible refine (HR1.out _ ((HG0.out.trans HG.out.grew).trans hS0)).grows.mono ?_); rintro e5 w5 ⟨rfl, hg5⟩; have hS5 := hS0.trans hg5))
              refine hK.out _ _ hS5 ?_
              clear hK K
              refine held_take 15 (v := ?_) rfl (by kernel_rfl) (by kernel_rfl) (by kernel_rfl) (fun _ _ _ h => h) (by rfl) ?_ hS5 ?_
              rotate_left
              · (intro W hW; go_simp; with_reducible rfl)
              refine held_take 16 (v := ?_) rfl (by kernel_rfl) (by kernel_rfl) (by kernel_rfl) (fun _ _ _ h => h) (by rfl) ?_ hS5 ?_
              rotate_left
              · (intro W hW; go_simp; with_reducible rfl)
              refine held_take 17 (v := ?_) rfl (by kernel_rfl) (by kernel_rfl) (by kernel_rfl) (fun _ _ _ h => h) (by rfl) ?_ hS5 ?_
              rotate_left
              · (intro W hW; go_simp; with_reducible rfl)
              refine held_norm (a' := ?_) ?_ ?_
              rotate_left
              · (go_simp; with_reducible rfl)
              refine held_skip 18 rfl (by kernel_rfl) (by kernel_rfl) (by kernel_rfl) (fun _ _ _ h => h) (by rfl) hS5 ?_
              refine held_norm (a' := ?_) ?_ ?_
              rotate_left
              · (go_simp; with_reducible rfl)
              refine held_skip 19 rfl (by kernel_rfl) (by kernel_rfl) (by kernel_rfl) (fun _ _ _ h => h) (by rfl) hS5 ?_
              refine held_norm (a' := ?_) ?_ ?_
              rotate_left
              · (go_simp; with_reducible rfl)
              refine held_skip 20 rfl (by kernel_rfl) (by kernel_rfl) (by kernel_rfl) (fun _ _ _ h => h) (by rfl) hS5 ?_
              refine held_norm (a' := ?_) ?_ ?_
              rotate_left
              · (go_simp; with_reducible rfl)
              refine held_skip 21 rfl (by kernel_rfl) (by kernel_rfl) (by kernel_rfl) (fun _ _ _ h => h) (by rfl) hS5 ?_
              refine held_norm (a' := ?_) ?_ ?_
              rotate_left
              · (go_simp; with_reducible rfl)
              refine held_skip 22 rfl (by kernel_rfl) (by kernel_rfl) (by kernel_rfl) (fun _ _ _ h => h) (by rfl) hS5 ?_
              refine held_norm (a' := ?_) ?_ ?_
              rotate_left
              · (go_simp; with_reducible rfl)
              refine held_skip 23 rfl (by kernel_rfl) (by kernel_rfl) (by kernel_rfl) (fun _ _ _ h => h) (by rfl) hS5 ?_
              refine held_norm (a' := ?_) ?_ ?_
              rotate_left
              · (go_simp; with_reducible rfl)
              refine held_skip 24 rfl (by kernel_rfl) (by kernel_rfl) (by kernel_rfl) (fun _ _ _ h => h) (by rfl) hS5 ?_
              refine held_norm (a' := ?_) ?_ ?_
              rotate_left
              · (go_simp; with_reducible rfl)
              refine held_skip 25 rfl (by kernel_rfl) (by kernel_rfl) (by kernel_rfl) (fun _ _ _ h => h) (by rfl) hS5 ?_
              refine held_norm (a' := ?_) ?_ ?_
              rotate_left
              · (go_simp; with_reducible rfl)
              refine held_skip 26 rfl (by kernel_rfl) (by kernel_rfl) (by kernel_rfl) (fun _ _ _ h => h) (by rfl) hS5 ?_
              refine held_norm (a' := ?_) ?_ ?_
              rotate_left
              · (go_simp; with_reducible rfl)
              refine held_take 27 (v := ?_) rfl (by kernel_rfl) (by kernel_rfl) (by kernel_rfl) (fun _ _ _ h => h) (by rfl) ?_ hS5 ?_
              rotate_left
              · (intro W hW; go_simp; with_reducible rfl)
              refine held_norm (a' := ?_) ?_ ?_
              rotate_left
              · (go_simp; with_reducible rfl)
              refine held_done (by kernel_rfl) ?_
              have HG6 := Lib.hid (HG.out.on hS5)
              clear hS5 hg5 hS0
              go_wp2_with fail
              exact ⟨⟨m + 1, A2, c2, css2, by omega, by go_num, by rw [HLx.out], by rw [HLx.out]; exact HG6.out⟩, by simp only [intOf]; omega⟩
            · have e2 : decide (low < (0 : Int)) = false := decide_eq_false hlo
              by_cases hra : rk ≤ low
              · have e3 : decide (rk ≤ low) = true := decide_eq_true hra
                have HLx := Lib.hid (HSk.out (HRa.out hra))
                clear HSk HPu HB2 HLo HDr HRa HBe HPt
                go_upto_region 8 with fail
                clear xl x0 x1 x2 x3 x4 x5
                have hS0 : Grew wr wr.drew := (Grew.refl wr).drew
                refine wp_region_S (fun W => Grew wr W) (by kernel_rfl) ?_
                refine held_take 0 (v := ?_) rfl (by kernel_rfl) (by kernel_rfl) (by kernel_rfl) (fun _ _ _ h => h) (by rfl) ?_ hS0 ?_
                rotate_left
                · (intro W hW; skip; go_simp; with_reducible rfl)
                refine held_take 1 (v := ?_) rfl (by kernel_rfl) (by kernel_rfl) (by kernel_rfl) (fun _ _ _ h => h) (by rfl) ?_ hS0 ?_
                rotate_left
                · (intro W hW; skip; go_simp; with_reducible rfl)
                refine held_take 2 (v := ?_) rfl (by kernel_rfl) (by kernel_rfl) (by kernel_rfl) (fun _ _ _ h => h) (by rfl) ?_ hS0 ?_
                rotate_left
                · (intro W hW; skip; go_simp; with_reducible rfl)
                refine held_take 3 (v := ?_) rfl (by kernel_rfl) (by kernel_rfl) (by kernel_rfl) (fun _ _ _ h => h) (by rfl) ?_ hS0 ?_
                rotate_left
                · (intro W hW; skip; go_simp; with_reducible rfl)
                refine held_norm (a' := ?_) ?_ ?_
                rotate_left
                · (go_simp; with_reducible rfl)
                refine held_skip 4 rfl (by kernel_rfl) (by kernel_rfl) (by kernel_rfl) (fun _ _ _ h => h) (by rfl) hS0 ?_
                refine held_norm (a' := ?_) ?_ ?_
                rotate_left
                · (go_simp; with_reducible rfl)
                refine held_skip 5 rfl (by kernel_rfl) (by kernel_rfl) (by kernel_rfl) (fun _ _ _ h => h) (by rfl) hS0 ?_
                refine held_norm (a' := ?_) ?_ ?_
                rotate_left
                · (go_simp; with_reducible rfl)
                refine held_skip 6 rfl (by kernel_rfl) (by kernel_rfl) (by kernel_rfl) (fun _ _ _ h => h) (by rfl) hS0 ?_
                refine held_norm (a' := ?_) ?_ ?_
                rotate_left
                · (go_simp; with_reducible rfl)
                refine held_skip 7 rfl (by kernel_rfl) (by kernel_rfl) (by kernel_rfl) (fun _ _ _ h => h) (by rfl) hS0 ?_
                refine held_norm (a' := ?_) ?_ ?_
                rotate_left
                · (go_simp; with_reducible rfl)
                refine held_skip 8 rfl (by kernel_rfl) (by kernel_rfl) (by kernel_rfl) (fun _ _ _ h => h) (by rfl) hS0 ?_
                refine held_norm (a' := ?_) ?_ ?_
                rotate_left
                · (go_simp; with_reducible rfl)
                refine held_take 9 (v := ?_) rfl (by kernel_rfl) (by kernel_rfl) (by kernel_rfl) (fun _ _ _ h => h) (by rfl) ?_ hS0 ?_
                rotate_left
                · (intro W hW; skip; go_simp; with_reducible rfl)
                refine held_take 10 (v := ?_) rfl (by kernel_rfl) (by kernel_rfl) (by kernel_rfl) (fun _ _ _ h => h) (by rfl) ?_ hS0 ?_
                rotate_left
                · (intro W hW; skip; go_simp; with_reducible rfl)
                refine held_norm (a' := ?_) ?_ ?_
                rotate_left
                · (go_simp; with_reducible rfl)
                refine held_take 11 (v := ?_) rfl (by kernel_rfl) (by kernel_rfl) (by kernel_rfl) (fun _ _ _ h => h) (by rfl) ?_ hS0 ?_
                rotate_left
                · (intro W hW; obtain ⟨xl, x0, x1, x2, x3, x4, x5⟩ := nm_in (HXm.out.grew hW); go_simp; with_reducible rfl)
                refine held_take 12 (v := ?_) rfl (by kernel_rfl) (by kernel_rfl) (by kernel_rfl) (fun _ _ _ h => h) (by rfl) ?_ hS0 ?_
                rotate_left
                · (intro W hW; obtain ⟨xl, x0, x1, x2, x3, x4, x5⟩ := nm_in (HXm.out.grew hW); go_simp; with_reducible rfl)
                refine held_take 13 (v := ?_) rfl (by kernel_rfl) (by kernel_rfl) (by kernel_rfl) (fun _ _ _ h => h) (by rfl) ?_ hS0 ?_
                rotate_left
                · (intro W hW; obtain ⟨xl, x0, x1, x2, x3, x4, x5⟩ := nm_in (HXm.out.grew hW); go_simp; with_reducible rfl)
                refine held_norm (a' := ?_) ?_ ?_
                rotate_left
                · (go_simp; with_reducible rfl)
                refine held_call 14 (by kernel_rfl) rfl (by rfl) (fun K hK => ?_)
                go_simp
                go_wp2_with ((go_at_call 12; (with_reducible refine (HR1.out _ ((HG0.out.trans HG.out.grew).trans hS0)).grows.mono ?_); rintro e5 w5 ⟨rfl, hg5⟩; have hS5 := hS0.trans hg5))
                refine hK.out _ _ hS5 ?_
                clear hK K
                refine held_take 15 (v := ?_) rfl (by kernel_rfl) (by kernel_rfl) (by kernel_rfl) (fun _ _ _ h => h) (by rfl) ?_ hS5 ?_
                rotate_left
                · (intro W hW; skip; go_simp; with_reducible rfl)
                refine held_take 16 (v := ?_) rfl (by kernel_rfl) (by kernel_rfl) (by kernel_rfl) (fun _ _ _ h => h) (by rfl) ?_ hS5 ?_
                rotate_left
                · (intro W hW; skip; go_simp; with_reducible rfl)
                refine held_take 17 (v := ?_) rfl (by kernel_rfl) (by kernel_rfl) (by kernel_rfl) (fun _ _ _ h => h) (by rfl) ?_ hS5 ?_
                rotate_left
                · (intro W hW; skip; go_simp; with_reducible rfl)
                refine held_norm (a' := ?_) ?_ ?_
                rotate_left
                · (go_simp; with_reducible rfl)
                refine held_take 18 (v := ?_) rfl (by kernel_rfl) (by kernel_rfl) (by kernel_rfl) (fun _ _ _ h => h) (by rfl) ?_ hS5 ?_
                rotate_left
                · (intro W hW; obtain ⟨xl, x0, x1, x2, x3, x4, x5⟩ := nm_in (HXm.out.grew hW); go_simp; with_reducible rfl)
                refine held_take 19 (v := ?_) rfl (by kernel_rfl) (by kernel_rfl) (by kernel_rfl) (fun _ _ _ h => h) (by rfl) ?_ hS5 ?_
                rotate_left
                · (intro W hW; obtain ⟨xl, x0, x1, x2, x3, x4, x5⟩ := nm_in (HXm.out.grew hW); go_simp; with_reducible rfl)
                refine held_take 20 (v := ?_) rfl (by kernel_rfl) (by kernel_rfl) (by kernel_rfl) (fun _ _ _ h => h) (by rfl) ?_ hS5 ?_
                rotate_left
                · (intro W hW; obtain ⟨xl, x0, x1, x2, x3, x4, x5⟩ := nm_in (HXm.out.grew hW); go_simp; with_reducible rfl)
                refine held_norm (a' := ?_) ?_ ?_
                rotate_left
                · (go_simp; with_reducible rfl)
                refine held_take 22 (v := ?_) rfl (by kernel_rfl) (by kernel_rfl) (by kernel_rfl) (fun _ _ _ h => h) (by rfl) ?_ hS5 ?_
                rotate_left
                · (intro W hW; obtain ⟨xl, x0, x1, x2, x3, x4, x5⟩ := nm_in (HXm.out.grew hW); go_simp; with_reducible rfl)
                refine held_take 23 (v := ?_) rfl (by kernel_rfl) (by kernel_rfl) (by kernel_rfl) (fun _ _ _ h => h) (by rfl) ?_ hS5 ?_
                rotate_left
                · (intro W hW; obtain ⟨xl, x0, x1, x2, x3, x4, x5⟩ := nm_in (HXm.out.grew hW); go_simp; with_reducible rfl)
                refine held_take 24 (v := ?_) rfl (by kernel_rfl) (by kernel_rfl) (by kernel_rfl) (fun _ _ _ h => h) (by rfl) ?_ hS5 ?_
                rotate_left
                · (intro W hW; obtain ⟨xl, x0, x1, x2, x3, x4, x5⟩ := nm_in (HXm.out.grew hW); go_simp; with_reducible rfl)
                refine held_norm (a' := ?_) ?_ ?_
                rotate_left
                · (go_simp; with_reducible rfl)
                refine held_call 21 (by kernel_rfl) rfl (by rfl) (fun K hK => ?_)
                go_simp
                go_wp2_with ((go_at_call 12; (with_reducible refine (HR2.out _ ((HG0.out.trans HG.out.grew).trans hS5)).grows.mono ?_); rintro e6 w6 ⟨rfl, hg6⟩; have hS6 := hS5.trans hg6))
                refine hK.out _ _ hS6 ?_
                clear hK K
                refine held_call 25 (by kernel_rfl) rfl (by rfl) (fun K hK => ?_)
                go_simp
                go_wp2_with ((go_at_call 12; (with_reducible refine (HR1.out _ ((HG0.out.trans HG.out.grew).trans hS6)).grows.mono ?_); rintro e7 w7 ⟨rfl, hg7⟩; have hS7 := hS6.trans hg7))
                refine hK.out _ _ hS7 ?_
                clear hK K
                refine held_take 26 (v := ?_) rfl (by kernel_rfl) (by kernel_rfl) (by kernel_rfl) (fun _ _ _ h => h) (by rfl) ?_ hS7 ?_
                rotate_left
                · (intro W hW; go_simp; with_reducible rfl)
                refine held_take 27 (v := ?_) rfl (by kernel_rfl) (by kernel_rfl) (by kernel_rfl) (fun _ _ _ h => h) (by rfl) ?_ hS7 ?_
                rotate_left
                · (intro W hW; go_simp; with_reducible rfl)
                refine held_norm (a' := ?_) ?_ ?_
                rotate_left
                · (go_simp; with_reducible rfl)
                refine held_done (by kernel_rfl) ?_
                have HG6 := Lib.hid (HG.out.on hS7)
                clear hS7 hg7 hS6 hg6 hS5 hg5 hS0
                go_wp2_with fail
                exact ⟨⟨m + 1, A2, c2, css2, by omega, by go_num, by rw [HLx.out], by rw [HLx.out]; exact HG6.out⟩, by simp only [intOf]; omega⟩
              · have e3 : decide (rk ≤ low) = false := decide_eq_false hra
                by_cases hbe : bp = []
                · subst hbe
                  have HLx := Lib.hid (HSk.out (HBe.out rfl))
                  clear HSk HPu HLo HDr HRa HBe HPt
                  go_upto_region 8 with fail
                  clear xl x0 x1 x2 x3 x4 x5
                  have hS0 : Grew wr wr.drew := (Grew.refl wr).drew
                  refine wp_region_S (fun W => Grew wr W) (by kernel_rfl) ?_
                  refine held_take 0 (v := ?_) rfl (by kernel_rfl) (by kernel_rfl) (by kernel_rfl) (fun _ _ _ h => h) (by rfl) ?_ hS0 ?_
                  rotate_left
                  · (intro W hW; skip; go_simp; with_reducible rfl)
                  refine held_take 1 (v := ?_) rfl (by kernel_rfl) (by kernel_rfl) (by kernel_rfl) (fun _ _ _ h => h) (by rfl) ?_ hS0 ?_
                  rotate_left
                  · (intro W hW; skip; go_simp; with_reducible rfl)
                  refine held_take 2 (v := ?_) rfl (by kernel_rfl) (by kernel_rfl) (by kernel_rfl) (fun _ _ _ h => h) (by rfl) ?_ hS0 ?_
                  rotate_left
                  · (intro W hW; skip; go_simp; with_reducible rfl)
                  refine held_take 3 (v := ?_) rfl (by kernel_rfl) (by kernel_rfl) (by kernel_rfl) (fun _ _ _ h => h) (by rfl) ?_ hS0 ?_
                  rotate_left
                  · (intro W hW; skip; go_simp; with_reducible rfl)
                  refine held_norm (a' := ?_) ?_ ?_
                  rotate_left
                  · (go_simp; with_reducible rfl)
                  refine held_skip 4 rfl (by kernel_rfl) (by kernel_rfl) (by kernel_rfl) (fun _ _ _ h => h) (by rfl) hS0 ?_
                  refine held_norm (a' := ?_) ?_ ?_
                  rotate_left
                  · (go_simp; with_reducible rfl)
                  refine held_skip 5 rfl (by kernel_rfl) (by kernel_rfl) (by kernel_rfl) (fun _ _ _ h => h) (by rfl) hS0 ?_
                  refine held_norm (a' := ?_) ?_ ?_
                  rotate_left
                  · (go_simp; with_reducible rfl)
                  refine held_skip 6 rfl (by kernel_rfl) (by kernel_rfl) (by kernel_rfl) (fun _ _ _ h => h) (by rfl) hS0 ?_
                  refine held_norm (a' := ?_) ?_ ?_
                  rotate_left
                  · (go_simp; with_reducible rfl)
                  refine held_skip 7 rfl (by kernel_rfl) (by kernel_rfl) (by kernel_rfl) (fun _ _ _ h => h) (by rfl) hS0 ?_
                  refine held_norm (a' := ?_) ?_ ?_
                  rotate_left
                  · (go_simp; with_reducible rfl)
                  refine held_skip 8 rfl (by kernel_rfl) (by kernel_rfl) (by kernel_rfl) (fun _ _ _ h => h) (by rfl) hS0 ?_
                  refine held_norm (a' := ?_) ?_ ?_
                  rotate_left
                  · (go_simp; with_reducible rfl)
                  refine held_take 9 (v := ?_) rfl (by kernel_rfl) (by kernel_rfl) (by kernel_rfl) (fun _ _ _ h => h) (by rfl) ?_ hS0 ?_
                  rotate_left
                  · (intro W hW; skip; go_simp; with_reducible rfl)
                  refine held_take 10 (v := ?_) rfl (by kernel_rfl) (by kernel_rfl) (by kernel_rfl) (fun _ _ _ h => h) (by rfl) ?_ hS0 ?_
                  rotate_left
                  · (intro W hW; skip; go_simp; with_reducible rfl)
                  refine held_norm (a' := ?_) ?_ ?_
                  rotate_left
                  · (go_simp; with_reducible rfl)
                  refine held_take 11 (v := ?_) rfl (by kernel_rfl) (by kernel_rfl) (by kernel_rfl) (fun _ _ _ h => h) (by rfl) ?_ hS0 ?_
                  rotate_left
                  · (intro W hW; obtain ⟨xl, x0, x1, x2, x3, x4, x5⟩ := nm_in (HXm.out.grew hW); go_simp; with_reducible rfl)
                  refine held_take 12 (v := ?_) rfl (by kernel_rfl) (by kernel_rfl) (by kernel_rfl) (fun _ _ _ h => h) (by rfl) ?_ hS0 ?_
                  rotate_left
                  · (intro W hW; obtain ⟨xl, x0, x1, x2, x3, x4, x5⟩ := nm_in (HXm.out.grew hW); go_simp; with_reducible rfl)
                  refine held_take 13 (v := ?_) rfl (by kernel_rfl) (by kernel_rfl) (by kernel_rfl) (fun _ _ _ h => h) (by rfl) ?_ hS0 ?_
                  rotate_left
                  · (intro W hW; obtain ⟨xl, x0, x1, x2, x3, x4, x5⟩ := nm_in (HXm.out.grew hW); go_simp; with_reducible rfl)
                  refine held_norm (a' := ?_) ?_ ?_
                  rotate_left
                  · (go_simp; with_reducible rfl)
                  refine held_call 14 (by kernel_rfl) rfl (by rfl) (fun K hK => ?_)
                  go_simp
                  go_wp2_with ((go_at_call 12; (with_reducible refine (HR1.out _ ((HG0.out.trans HG.out.grew).trans hS0)).grows.mono ?_); rintro e5 w5 ⟨rfl, hg5⟩; have hS5 := hS0.trans hg5))
                  refine hK.out _ _ hS5 ?_
                  clear hK K
                  refine held_take 15 (v := ?_) rfl (by kernel_rfl) (by kernel_rfl) (by kernel_rfl) (fun _ _ _ h => h) (by rfl) ?_ hS5 ?_
                  rotate_left
                  · (intro W hW; skip; go_simp; with_reducible rfl)
                  refine held_take 16 (v := ?_) rfl (by kernel_rfl) (by kernel_rfl) (by kernel_rfl) (fun _ _ _ h => h) (by rfl) ?_ hS5 ?_
                  rotate_left
                  · (intro W hW; skip; go_simp; with_reducible rfl)
                  refine held_take 17 (v := ?_) rfl (by kernel_rfl) (by kernel_rfl) (by kernel_rfl) (fun _ _ _ h => h) (by rfl) ?_ hS5 ?_
                  rotate_left
                  · (intro W hW; skip; go_simp; with_reducible rfl)
                  refine held_norm (a' := ?_) ?_ ?_
                  rotate_left
                  · (go_simp; with_reducible rfl)
                  refine held_take 18 (v := ?_) rfl (by kernel_rfl) (by kernel_rfl) (by kernel_rfl) (fun _ _ _ h => h) (by rfl) ?_ hS5 ?_
                  rotate_left
                  · (intro W hW; obtain ⟨xl, x0, x1, x2, x3, x4, x5⟩ := nm_in (HXm.out.grew hW); go_simp; with_reducible rfl)
                  refine held_take 19 (v := ?_) rfl (by kernel_rfl) (by kernel_rfl) (by kernel_rfl) (fun _ _ _ h => h) (by rfl) ?_ hS5 ?_
                  rotate_left
                  · (intro W hW; obtain ⟨xl, x0, x1, x2, x3, x4, x5⟩ := nm_in (HXm.out.grew hW); go_simp; with_reducible rfl)
                  refine held_take 20 (v := ?_) rfl (by kernel_rfl) (by kernel_rfl) (by kernel_rfl) (fun _ _ _ h => h) (by rfl) ?_ hS5 ?_
                  rotate_left
                  · (intro W hW; obtain ⟨xl, x0, x1, x2, x3, x4, x5⟩ := nm_in (HXm.out.grew hW); go_simp; with_reducible rfl)
                  refine held_norm (a' := ?_) ?_ ?_
                  rotate_left
                  · (go_simp; with_reducible rfl)
                  refine held_take 22 (v := ?_) rfl (by kernel_rfl) (by kernel_rfl) (by kernel_rfl) (fun _ _ _ h => h) (by rfl) ?_ hS5 ?_
                  rotate_left
                  · (intro W hW; obtain ⟨xl, x0, x1, x2, x3, x4, x5⟩ := nm_in (HXm.out.grew hW); go_simp; with_reducible rfl)
                  refine held_take 23 (v := ?_) rfl (by kernel_rfl) (by kernel_rfl) (by kernel_rfl) (fun _ _ _ h => h) (by rfl) ?_ hS5 ?_
                  rotate_left
                  · (intro W hW; obtain ⟨xl, x0, x1, x2, x3, x4, x5⟩ := nm_in (HXm.out.grew hW); go_simp; with_reducible rfl)
                  refine held_take 24 (v := ?_) rfl (by kernel_rfl) (by kernel_rfl) (by kernel_rfl) (fun _ _ _ h => h) (by rfl) ?_ hS5 ?_
                  rotate_left
                  · (intro W hW; obtain ⟨xl, x0, x1, x2, x3, x4, x5⟩ := nm_in (HXm.out.grew hW); go_simp; with_reducible rfl)
                  refine held_norm (a' := ?_) ?_ ?_
                  rotate_left
                  · (go_simp; with_reducible rfl)
                  refine held_call 21 (by kernel_rfl) rfl (by rfl) (fun K hK => ?_)
                  go_simp
                  go_wp2_with ((go_at_call 12; (with_reducible refine (HR2.out _ ((HG0.out.trans HG.out.grew).trans hS5)).grows.mono ?_); rintro e6 w6 ⟨rfl, hg6⟩; have hS6 := hS5.trans hg6))
                  refine hK.out _ _ hS6 ?_
                  clear hK K
                  refine held_call 25 (by kernel_rfl) rfl (by rfl) (fun K hK => ?_)
                  go_simp
                  go_wp2_with ((go_at_call 12; (with_reducible refine (HR1.out _ ((HG0.out.trans HG.out.grew).trans hS6)).grows.mono ?_); rintro e7 w7 ⟨rfl, hg7⟩; have hS7 := hS6.trans hg7))
                  refine hK.out _ _ hS7 ?_
                  clear hK K
                  refine held_take 26 (v := ?_) rfl (by kernel_rfl) (by kernel_rfl) (by kernel_rfl) (fun _ _ _ h => h) (by rfl) ?_ hS7 ?_
                  rotate_left
                  · (intro W hW; go_simp; with_reducible rfl)
                  refine held_take 27 (v := ?_) rfl (by kernel_rfl) (by kernel_rfl) (by kernel_rfl) (fun _ _ _ h => h) (by rfl) ?_ hS7 ?_
                  rotate_left
                  · (intro W hW; go_simp; with_reducible rfl)
                  refine held_norm (a' := ?_) ?_ ?_
                  rotate_left
                  · (go_simp; with_reducible rfl)
                  refine held_done (by kernel_rfl) ?_
                  have HG6 := Lib.hid (HG.out.on hS7)
                  clear hS7 hg7 hS6 hg6 hS5 hg5 hS0
                  obtain ⟨xl, x0, x1, x2, x3, x4, x5⟩ := nm_in (HX0.out.grew HG6.out.grew)
                  go_wp2_with (go_at_call 32; (with_reducible refine (HB2.out _ (HG0.out.trans HG6.out.grew)).mono ?_); rintro e7 w7 ⟨va, vb, rfl, hg7, A7, c7, B7, d7, rfl, rfl, _, _⟩; have HG7 := Lib.hid (HG6.out.on hg7); clear hg7)
                  exact ⟨⟨m + 1, A2, c2, css2, by omega, by go_num, by rw [HLx.out], by rw [HLx.out]; exact HG7.out⟩, by simp only [intOf]; omega⟩
                · have HLx := Lib.hid (HPu.out _ (HPt.out hlo (by rw [HZz.out]; simp) hra hbe))
                  have hbl : 0 < bp.length := List.length_pos_iff.2 hbe
                  have HBl : Hid (0 < (lcP bp).length) := Lib.hid (by rw [lcP_len]; exact hbl)
                  clear HSk HPu HLo HDr HRa HBe HPt hbe hbl
                  go_upto_region 8 with fail
                  clear xl x0 x1 x2 x3 x4 x5
                  have hS0 : Grew wr wr.drew := (Grew.refl wr).drew
                  refine wp_region_S (fun W => Grew wr W) (by kernel_rfl) ?_
                  refine held_take 0 (v := ?_) rfl (by kernel_rfl) (by kernel_rfl) (by kernel_rfl) (fun _ _ _ h => h) (by rfl) ?_ hS0 ?_
                  rotate_left
                  · (intro W hW; skip; go_simp; with_reducible rfl)
                  refine held_take 1 (v := ?_) rfl (by kernel_rfl) (by kernel_rfl) (by kernel_rfl) (fun _ _ _ h => h) (by rfl) ?_ hS0 ?_
                  rotate_left
                  · (intro W hW; skip; go_simp; with_reducible rfl)
                  refine held_take 2 (v := ?_) rfl (by kernel_rfl) (by kernel_rfl) (by kernel_rfl) (fun _ _ _ h => h) (by rfl) ?_ hS0 ?_
                  rotate_left
                  · (intro W hW; skip; go_simp; with_reducible rfl)
                  refine held_take 3 (v := ?_) rfl (by kernel_rfl) (by kernel_rfl) (by kernel_rfl) (fun _ _ _ h => h) (by rfl) ?_ hS0 ?_
                  rotate_left
                  · (intro W hW; skip; go_simp; with_reducible rfl)
                  refine held_norm (a' := ?_) ?_ ?_
                  rotate_left
                  · (go_simp; with_reducible rfl)
                  refine held_skip 4 rfl (by kernel_rfl) (by kernel_rfl) (by kernel_rfl) (fun _ _ _ h => h) (by rfl) hS0 ?_
                  refine held_norm (a' := ?_) ?_ ?_
                  rotate_left
                  · (go_simp; with_reducible rfl)
                  refine held_skip 5 rfl (by kernel_rfl) (by kernel_rfl) (by kernel_rfl) (fun _ _ _ h => h) (by rfl) hS0 ?_
                  refine held_norm (a' := ?_) ?_ ?_
                  rotate_left
                  · (go_simp; with_reducible rfl)
                  refine held_skip 6 rfl (by kernel_rfl) (by kernel_rfl) (by kernel_rfl) (fun _ _ _ h => h) (by rfl) hS0 ?_
                  refine held_norm (a' := ?_) ?_ ?_
                  rotate_left
                  · (go_simp; with_reducible rfl)
                  refine held_skip 7 rfl (by kernel_rfl) (by kernel_rfl) (by kernel_rfl) (fun _ _ _ h => h) (by rfl) hS0 ?_
                  refine held_norm (a' := ?_) ?_ ?_
                  rotate_left
                  · (go_simp; with_reducible rfl)
                  refine held_skip 8 rfl (by kernel_rfl) (by kernel_rfl) (by kernel_rfl) (fun _ _ _ h => h) (by rfl) hS0 ?_
                  refine held_norm (a' := ?_) ?_ ?_
                  rotate_left
                  · (go_simp; with_reducible rfl)
                  refine held_take 9 (v := ?_) rfl (by kernel_rfl) (by kernel_rfl) (by kernel_rfl) (fun _ _ _ h => h) (by rfl) ?_ hS0 ?_
                  rotate_left
                  · (intro W hW; skip; go_simp; with_reducible rfl)
                  refine held_take 10 (v := ?_) rfl (by kernel_rfl) (by kernel_rfl) (by kernel_rfl) (fun _ _ _ h => h) (by rfl) ?_ hS0 ?_
                  rotate_left
                  · (intro W hW; skip; go_simp; with_reducible rfl)
                  refine held_norm (a' := ?_) ?_ ?_
                  rotate_left
                  · (go_simp; with_reducible rfl)
                  refine held_take 11 (v := ?_) rfl (by kernel_rfl) (by kernel_rfl) (by kernel_rfl) (fun _ _ _ h => h) (by rfl) ?_ hS0 ?_
                  rotate_left
                  · (intro W hW; obtain ⟨xl, x0, x1, x2, x3, x4, x5⟩ := nm_in (HXm.out.grew hW); go_simp; with_reducible rfl)
                  refine held_take 12 (v := ?_) rfl (by kernel_rfl) (by kernel_rfl) (by kernel_rfl) (fun _ _ _ h => h) (by rfl) ?_ hS0 ?_
                  rotate_left
                  · (intro W hW; obtain ⟨xl, x0, x1, x2, x3, x4, x5⟩ := nm_in (HXm.out.grew hW); go_simp; with_reducible rfl)
                  refine held_take 13 (v := ?_) rfl (by kernel_rfl) (by kernel_rfl) (by kernel_rfl) (fun _ _ _ h => h) (by rfl) ?_ hS0 ?_
                  rotate_left
                  · (intro W hW; obtain ⟨xl, x0, x1, x2, x3, x4, x5⟩ := nm_in (HXm.out.grew hW); go_simp; with_reducible rfl)
                  refine held_norm (a' := ?_) ?_ ?_
                  rotate_left
                  · (go_simp; with_reducible rfl)
                  refine held_call 14 (by kernel_rfl) rfl (by rfl) (fun K hK => ?_)
                  go_simp
                  go_wp2_with ((go_at_call 12; (with_reducible refine (HR1.out _ ((HG0.out.trans HG.out.grew).trans hS0)).grows.mono ?_); rintro e5 w5 ⟨rfl, hg5⟩; have hS5 := hS0.trans hg5))
                  refine hK.out _ _ hS5 ?_
                  clear hK K
                  refine held_take 15 (v := ?_) rfl (by kernel_rfl) (by kernel_rfl) (by kernel_rfl) (fun _ _ _ h => h) (by rfl) ?_ hS5 ?_
                  rotate_left
                  · (intro W hW; skip; go_simp; with_reducible rfl)
                  refine held_take 16 (v := ?_) rfl (by kernel_rfl) (by kernel_rfl) (by kernel_rfl) (fun _ _ _ h => h) (by rfl) ?_ hS5 ?_
                  rotate_left
                  · (intro W hW; skip; go_simp; with_reducible rfl)
                  refine held_take 17 (v := ?_) rfl (by kernel_rfl) (by kernel_rfl) (by kernel_rfl) (fun _ _ _ h => h) (by rfl) ?_ hS5 ?_
                  rotate_left
                  · (intro W hW; skip; go_simp; with_reducible rfl)
                  refine held_norm (a' := ?_) ?_ ?_
                  rotate_left
                  · (go_simp; with_reducible rfl)
                  refine held_take 18 (v := ?_) rfl (by kernel_rfl) (by kernel_rfl) (by kernel_rfl) (fun _ _ _ h => h) (by rfl) ?_ hS5 ?_
                  rotate_left
                  · (intro W hW; obtain ⟨xl, x0, x1, x2, x3, x4, x5⟩ := nm_in (HXm.out.grew hW); go_simp; with_reducible rfl)
                  refine held_take 19 (v := ?_) rfl (by kernel_rfl) (by kernel_rfl) (by kernel_rfl) (fun _ _ _ h => h) (by rfl) ?_ hS5 ?_
                  rotate_left
                  · (intro W hW; obtain ⟨xl, x0, x1, x2, x3, x4, x5⟩ := nm_in (HXm.out.grew hW); go_simp; with_reducible rfl)
                  refine held_take 20 (v := ?_) rfl (by kernel_rfl) (by kernel_rfl) (by kernel_rfl) (fun _ _ _ h => h) (by rfl) ?_ hS5 ?_
                  rotate_left
                  · (intro W hW; obtain ⟨xl, x0, x1, x2, x3, x4, x5⟩ := nm_in (HXm.out.grew hW); go_simp; with_reducible rfl)
                  refine held_norm (a' := ?_) ?_ ?_
                  rotate_left
                  · (go_simp; with_reducible rfl)
                  refine held_take 22 (v := ?_) rfl (by kernel_rfl) (by kernel_rfl) (by kernel_rfl) (fun _ _ _ h => h) (by rfl) ?_ hS5 ?_
                  rotate_left
                  · (intro W hW; obtain ⟨xl, x0, x1, x2, x3, x4, x5⟩ := nm_in (HXm.out.grew hW); go_simp; with_reducible rfl)
                  refine held_take 23 (v := ?_) rfl (by kernel_rfl) (by kernel_rfl) (by kernel_rfl) (fun _ _ _ h => h) (by rfl) ?_ hS5 ?_
                  rotate_left
                  · (intro W hW; obtain ⟨xl, x0, x1, x2, x3, x4, x5⟩ := nm_in (HXm.out.grew hW); go_simp; with_reducible rfl)
                  refine held_take 24 (v := ?_) rfl (by kernel_rfl) (by kernel_rfl) (by kernel_rfl) (fun _ _ _ h => h) (by rfl) ?_ hS5 ?_
                  rotate_left
                  · (intro W hW; obtain ⟨xl, x0, x1, x2, x3, x4, x5⟩ := nm_in (HXm.out.grew hW); go_simp; with_reducible rfl)
                  refine held_norm (a' := ?_) ?_ ?_
                  rotate_left
                  · (go_simp; with_reducible rfl)
                  refine held_call 21 (by kernel_rfl) rfl (by rfl) (fun K hK => ?_)
                  go_simp
                  go_wp2_with ((go_at_call 12; (with_reducible refine (HR2.out _ ((HG0.out.trans HG.out.grew).trans hS5)).grows.mono ?_); rintro e6 w6 ⟨rfl, hg6⟩; have hS6 := hS5.trans hg6))
                  refine hK.out _ _ hS6 ?_
                  clear hK K
                  refine held_call 25 (by kernel_rfl) rfl (by rfl) (fun K hK => ?_)
                  go_simp
                  go_wp2_with ((go_at_call 12; (with_reducible refine (HR1.out _ ((HG0.out.trans HG.out.grew).trans hS6)).grows.mono ?_); rintro e7 w7 ⟨rfl, hg7⟩; have hS7 := hS6.trans hg7))
                  refine hK.out _ _ hS7 ?_
                  clear hK K
                  refine held_take 26 (v := ?_) rfl (by kernel_rfl) (by kernel_rfl) (by kernel_rfl) (fun _ _ _ h => h) (by rfl) ?_ hS7 ?_
                  rotate_left
                  · (intro W hW; go_simp; with_reducible rfl)
                  refine held_take 27 (v := ?_) rfl (by kernel_rfl) (by kernel_rfl) (by kernel_rfl) (fun _ _ _ h => h) (by rfl) ?_ hS7 ?_
                  rotate_left
                  · (intro W hW; go_simp; with_reducible rfl)
                  refine held_norm (a' := ?_) ?_ ?_
                  rotate_left
                  · (go_simp; with_reducible rfl)
                  refine held_done (by kernel_rfl) ?_
                  have HG6 := Lib.hid (HG.out.on hS7)
                  clear hS7 hg7 hS6 hg6 hS5 hg5 hS0
                  obtain ⟨xl, x0, x1, x2, x3, x4, x5⟩ := nm_in (HX0.out.grew HG6.out.grew)
                  go_upto_region 10 with (go_at_call 32; (with_reducible refine (HB2.out _ (HG0.out.trans HG6.out.grew)).mono ?_); rintro e7 w7 ⟨va, vb, rfl, hg7, A7, c7, B7, d7, rfl, rfl, ha7, hb7⟩; have HG7 := Lib.hid (HG6.out.on hg7); have HFv := Lib.hid (BetR.fv (u := W0) (x := ⟨m, q, bp⟩) (w := w7) ⟨A7, c7, B7, d7, rfl, rfl, ha7, hb7⟩ HG6.out.grew.size); clear hg7 ha7 hb7)
                  clear xl x0 x1 x2 x3 x4 x5
                  have hBl := HBl.out
                  have e4 : decide ((0 : Int) < ((lcP bp).length : Int)) = true := decide_eq_true (by omega)
                  generalize (lcP bp).length = n1 at *
                  generalize (rcP bp).length = n2 at *
                  go_wp2_with (at_builtin; refine wpList_appB rfl _ _ 39 43 4 rfl W0.heap.size (.agg #[.int .i64 0, .slice none 0 0, .int .i64 0, .slice none 0 0]) 64 Try.underlying39 infoFl rfl (by decide) (by decide) _ (flL cl n l order q m).length css2.flatten rfl (HG7.out.on ((Grew.refl _).alloc _)).own _ 1 1 [.int .i64 m, .slice A7 n1 c7, .int .i64 q, .slice B7 n2 d7] rfl rfl (row_new _ 43 _ #[.int .i64 m, .slice A7 n1 c7, .int .i64 q, .slice B7 n2 d7] rfl) (by simp [Value.oneCell']) (by omega) (by rw [World.size_alloc]; have := HG7.out.grew.size; omega) ?_; intro A8 c8 w8 ho8 hg8; have HG8 := Lib.hid ((HG7.out.on ((Grew.refl _).alloc (.cells #[.int .i64 m, .slice A7 n1 c7, .int .i64 q, .slice B7 n2 d7] 43))).snoc (HFv.out.impI fun _ _ hm => hm.grew ((Grew.refl _).alloc _)) ho8 hg8); clear ho8 hg8)
                  exact ⟨⟨m + 1, A8, c8, css2 ++ [[.int .i64 m, .slice A7 n1 c7, .int .i64 q, .slice B7 n2 d7]], by omega, by go_num, by rw [HLx.out, List.length_append]; rfl, by rw [HLx.out]; exact HG8.out⟩, by simp only [intOf]; omega⟩
          · have h0 : 0 < order.length := by cases order with | nil => simp at hz | cons a t => simp
            have e0 : decide ((0 : Int) < (ol : Int)) = true := decide_eq_true (by have := HOl.out; omega)
            have e00 : (0 : Int) < (ol : Int) := by have := HOl.out; omega
            have e01 : 0 < ol := by have := HOl.out; omega
            have e02 : decide (0 < ol) = true := decide_eq_true e01
            obtain ⟨b, o, rfl, hb0, hc0⟩ := rowI_at (HRs.out.grew (HG0.out.trans HG.out.grew)) h0
            have hm0 : order[0] = (m : Int) := by rw [List.head?_eq_getElem?, List.getElem?_eq_getElem h0] at hz; injection hz
            rw [hm0, Nat.add_zero] at hc0
            have HLx := Lib.hid (HSk.out (HDr.out hz))
            clear HSk HPu HR2 HB2 HLo HDr HRa HBe HPt hm0 hz
            go_upto_region 8 with fail
            clear xl x0 x1 x2 x3 x4 x5
            have hS0 : Grew wr wr.drew := (Grew.refl wr).drew
            refine wp_region_S (fun W => Grew wr W) (by kernel_rfl) ?_
            refine held_take 0 (v := ?_) rfl (by kernel_rfl) (by kernel_rfl) (by kernel_rfl) (fun _ _ _ h => h) (by rfl) ?_ hS0 ?_
            rotate_left
            · (intro W hW; skip; go_simp; with_reducible rfl)
            refine held_take 1 (v := ?_) rfl (by kernel_rfl) (by kernel_rfl) (by kernel_rfl) (fun _ _ _ h => h) (by rfl) ?_ hS0 ?_
            rotate_left
            · (intro W hW; skip; go_simp; with_reducible rfl)
            refine held_take 2 (v := ?_) rfl (by kernel_rfl) (by kernel_rfl) (by kernel_rfl) (fun _ _ _ h => h) (by rfl) ?_ hS0 ?_
            rotate_left
            · (intro W hW; skip; go_simp; with_reducible rfl)
            refine held_take 3 (v := ?_) rfl (by kernel_rfl) (by kernel_rfl) (by kernel_rfl) (fun _ _ _ h => h) (by rfl) ?_ hS0 ?_
            rotate_left
            · (intro W hW; skip; go_simp; with_reducible rfl)
            refine held_norm (a' := ?_) ?_ ?_
            rotate_left
            · (go_simp; with_reducible rfl)
            refine held_take 4 (v := ?_) rfl (by kernel_rfl) (by kernel_rfl) (by kernel_rfl) (fun _ _ _ h => h) (by rfl) ?_ hS0 ?_
            rotate_left
            · (intro W hW; skip; go_simp; with_reducible rfl)
            refine held_take 5 (v := ?_) rfl (by kernel_rfl) (by kernel_rfl) (by kernel_rfl) (fun _ _ _ h => h) (by rfl) ?_ hS0 ?_
            rotate_left
            · (intro W hW; skip; go_simp; with_reducible rfl)
            refine held_take 6 (v := ?_) rfl (by kernel_rfl) (by kernel_rfl) (by kernel_rfl) (fun _ _ _ h => h) (by rfl) ?_ hS0 ?_
            rotate_left
            · (intro W hW; skip; go_simp; with_reducible rfl)
            refine held_norm (a' := ?_) ?_ ?_
            rotate_left
            · (go_simp; with_reducible rfl)
            refine held_take 7 (v := ?_) rfl (by kernel_rfl) (by kernel_rfl) (by kernel_rfl) (fun _ _ _ h => h) (by rfl) ?_ hS0 ?_
            rotate_left
            · (intro W hW; have hb8 := cell_keep hW hb0 hc0; have hl8 := Nat.lt_of_lt_of_le hb0 hW.size; go_simp; with_reducible rfl)
            refine held_take 8 (v := ?_) rfl (by kernel_rfl) (by kernel_rfl) (by kernel_rfl) (fun _ _ _ h => h) (by rfl) ?_ hS0 ?_
            rotate_left
            · (intro W hW; have hb8 := cell_keep hW hb0 hc0; have hl8 := Nat.lt_of_lt_of_le hb0 hW.size; go_simp; with_reducible rfl)
            refine held_norm (a' := ?_) ?_ ?_
            rotate_left
            · (go_simp; with_reducible rfl)
            refine held_take 9 (v := ?_) rfl (by kernel_rfl) (by kernel_rfl) (by kernel_rfl) (fun _ _ _ h => h) (by rfl) ?_ hS0 ?_
            rotate_left
            · (intro W hW; skip; go_simp; with_reducible rfl)
            refine held_take 10 (v := ?_) rfl (by kernel_rfl) (by kernel_rfl) (by kernel_rfl) (fun _ _ _ h => h) (by rfl) ?_ hS0 ?_
            rotate_left
            · (intro W hW; skip; go_simp; with_reducible rfl)
            refine held_norm (a' := ?_) ?_ ?_
            rotate_left
            · (go_simp; with_reducible rfl)
            refine held_skip 11 rfl (by kernel_rfl) (by kernel_rfl) (by kernel_rfl) (fun _ _ _ h => h) (by rfl) hS0 ?_
            refine held_norm (a' := ?_) ?_ ?_
            rotate_left
            · (go_simp; with_reducible rfl)
            refine held_skip 12 rfl (by kernel_rfl) (by kernel_rfl) (by kernel_rfl) (fun _ _ _ h => h) (by rfl) hS0 ?_
            refine held_norm (a' := ?_) ?_ ?_
            rotate_left
            · (go_simp; with_reducible rfl)
            refine held_skip 13 rfl (by kernel_rfl) (by kernel_rfl) (by kernel_rfl) (fun _ _ _ h => h) (by rfl) hS0 ?_
            refine held_norm (a' := ?_) ?_ ?_
            rotate_left
            · (go_simp; with_reducible rfl)
            refine held_skip 14 rfl (by kernel_rfl) (by kernel_rfl) (by kernel_rfl) (fun _ _ _ h => h) (by rfl) hS0 ?_
            refine held_norm (a' := ?_) ?_ ?_
            rotate_left
            · (go_simp; with_reducible rfl)
            refine held_skip 15 rfl (by kernel_rfl) (by kernel_rfl) (by kernel_rfl) (fun _ _ _ h => h) (by rfl) hS0 ?_
            refine held_norm (a' := ?_) ?_ ?_
            rotate_left
            · (go_simp; with_reducible rfl)
            refine held_take 16 (v := ?_) rfl (by kernel_rfl) (by kernel_rfl) (by kernel_rfl) (fun _ _ _ h => h) (by rfl) ?_ hS0 ?_
            rotate_left
            · (intro W hW; go_simp; with_reducible rfl)
            refine held_take 17 (v := ?_) rfl (by kernel_rfl) (by kernel_rfl) (by kernel_rfl) (fun _ _ _ h => h) (by rfl) ?_ hS0 ?_
            rotate_left
            · (intro W hW; go_simp; with_reducible rfl)
            refine held_norm (a' := ?_) ?_ ?_
            rotate_left
            · (go_simp; with_reducible rfl)
            refine held_skip 18 rfl (by kernel_rfl) (by kernel_rfl) (by kernel_rfl) (fun _ _ _ h => h) (by rfl) hS0 ?_
            refine held_norm (a' := ?_) ?_ ?_
            rotate_left
            · (go_simp; with_reducible rfl)
            refine held_skip 19 rfl (by kernel_rfl) (by kernel_rfl) (by kernel_rfl) (fun _ _ _ h => h) (by rfl) hS0 ?_
            refine held_norm (a' := ?_) ?_ ?_
            rotate_left
            · (go_simp; with_reducible rfl)
            refine held_skip 20 rfl (by kernel_rfl) (by kernel_rfl) (by kernel_rfl) (fun _ _ _ h => h) (by rfl) hS0 ?_
            refine held_norm (a' := ?_) ?_ ?_
            rotate_left
            · (go_simp; with_reducible rfl)
            refine held_skip 21 rfl (by kernel_rfl) (by kernel_rfl) (by kernel_rfl) (fun _ _ _ h => h) (by rfl) hS0 ?_
            refine held_norm (a' := ?_) ?_ ?_
            rotate_left
            · (go_simp; with_reducible rfl)
            refine held_skip 22 rfl (by kernel_rfl) (by kernel_rfl) (by kernel_rfl) (fun _ _ _ h => h) (by rfl) hS0 ?_
            refine held_norm (a' := ?_) ?_ ?_
            rotate_left
            · (go_simp; with_reducible rfl)
            refine held_skip 23 rfl (by kernel_rfl) (by kernel_rfl) (by kernel_rfl) (fun _ _ _ h => h) (by rfl) hS0 ?_
            refine held_norm (a' := ?_) ?_ ?_
            rotate_left
            · (go_simp; with_reducible rfl)
            refine held_skip 24 rfl (by kernel_rfl) (by kernel_rfl) (by kernel_rfl) (fun _ _ _ h => h) (by rfl) hS0 ?_
            refine held_norm (a' := ?_) ?_ ?_
            rotate_left
            · (go_simp; with_reducible rfl)
            refine held_skip 25 rfl (by kernel_rfl) (by kernel_rfl) (by kernel_rfl) (fun _ _ _ h => h) (by rfl) hS0 ?_
            refine held_norm (a' := ?_) ?_ ?_
            rotate_left
            · (go_simp; with_reducible rfl)
            refine held_skip 26 rfl (by kernel_rfl) (by kernel_rfl) (by kernel_rfl) (fun _ _ _ h => h) (by rfl) hS0 ?_
            refine held_norm (a' := ?_) ?_ ?_
            rotate_left
            · (go_simp; with_reducible rfl)
            refine held_take 27 (v := ?_) rfl (by kernel_rfl) (by kernel_rfl) (by kernel_rfl) (fun _ _ _ h => h) (by rfl) ?_ hS0 ?_
            rotate_left
            · (intro W hW; go_simp; with_reducible rfl)
            refine held_norm (a' := ?_) ?_ ?_
            rotate_left
            · (go_simp; with_reducible rfl)
            refine held_done (by kernel_rfl) ?_
            have HG6 := Lib.hid (HG.out.on hS0)
            clear hS0
            go_wp2_with fail
            exact ⟨⟨m + 1, A2, c2, css2, by omega, by go_num, by rw [HLx.out], by rw [HLx.out]; exact HG6.out⟩, by simp only [intOf]; omega⟩
          · have h0 : 0 < order.length := by cases order with | nil => simp at hz | cons a t => simp
            have e0 : decide ((0 : Int) < (ol : Int)) = true := decide_eq_true (by have := HOl.out; omega)
            have e00 : (0 : Int) < (ol : Int) := by have := HOl.out; omega
            have e01 : 0 < ol := by have := HOl.out; omega
            have e02 : decide (0 < ol) = true := decide_eq_true e01
            obtain ⟨b, o, rfl, hb0, hc0⟩ := rowI_at (HRs.out.grew (HG0.out.trans HG.out.grew)) h0
            have hm0 : order[0] = y := by rw [List.head?_eq_getElem?, List.getElem?_eq_getElem h0] at hz; injection hz
            rw [hm0, Nat.add_zero] at hc0
            have e5 : ((m : Int) == y) = false := by rw [beq_eq_false_iff_ne]; exact fun h => hy h.symm
            have HZz := Lib.hid hz
            clear hm0 hz
            by_cases hlo : low < 0
            · have e2 : decide (low < (0 : Int)) = true := decide_eq_true hlo
              have HLx := Lib.hid (HSk.out (HLo.out hlo))
              clear HSk HPu HR2 HB2 HLo HDr HRa HBe HPt
              go_upto_region 8 with fail
              clear xl x0 x1 x2 x3 x4 x5
              have hS0 : Grew wr wr.drew := (Grew.refl wr).drew
              refine wp_region_S (fun W => Grew wr W) (by kernel_rfl) ?_
              refine held_take 0 (v := ?_) rfl (by kernel_rfl) (by kernel_rfl) (by kernel_rfl) (fun _ _ _ h => h) (by rfl) ?_ hS0 ?_
              rotate_left
              · (intro W hW; skip; go_simp; with_reducible rfl)
              refine held_take 1 (v := ?_) rfl (by kernel_rfl) (by kernel_rfl) (by kernel_rfl) (fun _ _ _ h => h) (by rfl) ?_ hS0 ?_
              rotate_left
              · (intro W hW; skip; go_simp; with_reducible rfl)
              refine held_take 2 (v := ?_) rfl (by kernel_rfl) (by kernel_rfl) (by kernel_rfl) (fun _ _ _ h => h) (by rfl) ?_ hS0 ?_
              rotate_left
              · (intro W hW; skip; go_simp; with_reducible rfl)
              refine held_take 3 (v := ?_) rfl (by kernel_rfl) (by kernel_rfl) (by kernel_rfl) (fun _ _ _ h => h) (by rfl) ?_ hS0 ?_
              rotate_left
              · (intro W hW; skip; go_simp; with_reducible rfl)
              refine held_norm (a' := ?_) ?_ ?_
              rotate_left
              · (go_simp; with_reducible rfl)
              refine held_take 4 (v := ?_) rfl (by kernel_rfl) (by kernel_rfl) (by kernel_rfl) (fun _ _ _ h => h) (by rfl) ?_ hS0 ?_
              rotate_left
              · (intro W hW; skip; go_simp; with_reducible rfl)
              refine held_take 5 (v := ?_) rfl (by kernel_rfl) (by kernel_rfl) (by kernel_rfl) (fun _ _ _ h => h) (by rfl) ?_ hS0 ?_
              rotate_left
              · (intro W hW; skip; go_simp; with_reducible rfl)
              refine held_take 6 (v := ?_) rfl (by kernel_rfl) (by kernel_rfl) (by kernel_rfl) (fun _ _ _ h => h) (by rfl) ?_ hS0 ?_
              rotate_left
              · (intro W hW; skip; go_simp; with_reducible rfl)
              refine held_norm (a' := ?_) ?_ ?_
              rotate_left
              · (go_simp; with_reducible rfl)
              refine held_take 7 (v := ?_) rfl (by kernel_rfl) (by kernel_rfl) (by kernel_rfl) (fun _ _ _ h => h) (by rfl) ?_ hS0 ?_
              rotate_left
              · (intro W hW; have hb8 := cell_keep hW hb0 hc0; have hl8 := Nat.lt_of_lt_of_le hb0 hW.size; go_simp; with_reducible rfl)
              refine held_take 8 (v := ?_) rfl (by kernel_rfl) (by kernel_rfl) (by kernel_rfl) (fun _ _ _ h => h) (by rfl) ?_ hS0 ?_
              rotate_left
              · (intro W hW; have hb8 := cell_keep hW hb0 hc0; have hl8 := Nat.lt_of_lt_of_le hb0 hW.size; go_simp; with_reducible rfl)
              refine held_norm (a' := ?_) ?_ ?_
              rotate_left
              · (go_simp; with_reducible rfl)
              refine held_take 9 (v := ?_) rfl (by kernel_rfl) (by kernel_rfl) (by kernel_rfl) (fun _ _ _ h => h) (by rfl) ?_ hS0 ?_
              rotate_left
              · (intro W hW; skip; go_simp; with_reducible rfl)
              refine held_take 10 (v := ?_) rfl (by kernel_rfl) (by kernel_rfl) (by kernel_rfl) (fun _ _ _ h => h) (by rfl) ?_ hS0 ?_
              rotate_left
              · (intro W hW; skip; go_simp; with_reducible rfl)
              refine held_norm (a' := ?_) ?_ ?_
              rotate_left
              · (go_simp; with_reducible rfl)
              refine held_take 11 (v := ?_) rfl (by kernel_rfl) (by kernel_rfl) (by kernel_rfl) (fun _ _ _ h => h) (by rfl) ?_ hS0 ?_
              rotate_left
              · (intro W hW; obtain ⟨xl, x0, x1, x2, x3, x4, x5⟩ := nm_in (HXm.out.grew hW); go_simp; with_reducible rfl)
              refine held_take 12 (v := ?_) rfl (by kernel_rfl) (by kernel_rfl) (by kernel_rfl) (fun _ _ _ h => h) (by rfl) ?_ hS0 ?_
              rotate_left
              · (intro W hW; obtain ⟨xl, x0, x1, x2, x3, x4, x5⟩ := nm_in (HXm.out.grew hW); go_simp; with_reducible rfl)
              refine held_take 13 (v := ?_) rfl (by kernel_rfl) (by kernel_rfl) (by kernel_rfl) (fun _ _ _ h => h) (by rfl) ?_ hS0 ?_
              rotate_left
              · (intro W hW; obtain ⟨xl, x0, x1, x2, x3, x4, x5⟩ := nm_in (HXm.out.grew hW); go_simp; with_reducible rfl)
              refine held_norm (a' := ?_) ?_ ?_
              rotate_left
              · (go_simp; with_reducible rfl)
              refine held_call 14 (by kernel_rfl) rfl (by rfl) (fun K hK => ?_)
              go_simp
              go_wp2_with ((go_at_call 12; (with_reducible refine (HR1.out _ ((HG0.out.trans HG.out.grew).trans hS0)).grows.mono ?_); rintro e5 w5 ⟨rfl, hg5⟩; have hS5 := hS0.trans hg5))
              refine hK.out _ _ hS5 ?_
              clear hK K
              refine held_take 15 (v := ?_) rfl (by kernel_rfl) (by kernel_rfl) (by kernel_rfl) (fun _ _ _ h => h) (by rfl) ?_ hS5 ?_
              rotate_left
              · (intro W hW; go_simp; with_reducible rfl)
              refine held_take 16 (v := ?_) rfl (by kernel_rfl) (by kernel_rfl) (by kernel_rfl) (fun _ _ _ h => h) (by rfl) ?_ hS5 ?_
              rotate_left
              · (intro W hW; go_simp; with_reducible rfl)
              refine held_take 17 (v := ?_) rfl (by kernel_rfl) (by kernel_rfl) (by kernel_rfl) (fun _ _ _ h => h) (by rfl) ?_ hS5 ?_
              rotate_left
              · (intro W hW; go_simp; with_reducible rfl)
              refine held_norm (a' := ?_) ?_ ?_
              rotate_left
              · (go_simp; with_reducible rfl)
              refine held_skip 18 rfl (by kernel_rfl) (by kernel_rfl) (by kernel_rfl) (fun _ _ _ h => h) (by rfl) hS5 ?_
              refine held_norm (a' := ?_) ?_ ?_
              rotate_left
              · (go_simp; with_reducible rfl)
              refine held_skip 19 rfl (by kernel_rfl) (by kernel_rfl) (by kernel_rfl) (fun _ _ _ h => h) (by rfl) hS5 ?_
              refine held_norm (a' := ?_) ?_ ?_
              rotate_left
              · (go_simp; with_reducible rfl)
              refine held_skip 20 rfl (by kernel_rfl) (by kernel_rfl) (by kernel_rfl) (fun _ _ _ h => h) (by rfl) hS5 ?_
              refine held_norm (a' := ?_) ?_ ?_
              rotate_left
              · (go_simp; with_reducible rfl)
              refine held_skip 21 rfl (by kernel_rfl) (by kernel_rfl) (by kernel_rfl) (fun _ _ _ h => h) (by rfl) hS5 ?_
              refine held_norm (a' := ?_) ?_ ?_
              rotate_left
              · (go_simp; with_reducible rfl)
              refine held_skip 22 rfl (by kernel_rfl) (by kernel_rfl) (by kernel_rfl) (fun _ _ _ h => h) (by rfl) hS5 ?_
              refine held_norm (a' := ?_) ?_ ?_
              rotate_left
              · (go_simp; with_reducible rfl)
              refine held_skip 23 rfl (by kernel_rfl) (by kernel_rfl) (by kernel_rfl) (fun _ _ _ h => h) (by rfl) hS5 ?_
              refine held_norm (a' := ?_) ?_ ?_
              rotate_left
              · (go_simp; with_reducible rfl)
              refine held_skip 24 rfl (by kernel_rfl) (by kernel_rfl) (by kernel_rfl) (fun _ _ _ h => h) (by rfl) hS5 ?_
              refine held_norm (a' := ?_) ?_ ?_
              rotate_left
              · (go_simp; with_reducible rfl)
              refine held_skip 25 rfl (by kernel_rfl) (by kernel_rfl) (by kernel_rfl) (fun _ _ _ h => h) (by rfl) hS5 ?_
              refine held_norm (a' := ?_) ?_ ?_
              rotate_left
              · (go_simp; with_reducible rfl)
              refine held_skip 26 rfl (by kernel_rfl) (by kernel_rfl) (by kernel_rfl) (fun _ _ _ h => h) (by rfl) hS5 ?_
              refine held_norm (a' := ?_) ?_ ?_
              rotate_left
              · (go_simp; with_reducible rfl)
              refine held_take 27 (v := ?_) rfl (by kernel_rfl) (by kernel_rfl) (by kernel_rfl) (fun _ _ _ h => h) (by rfl) ?_ hS5 ?_
              rotate_left
              · (intro W hW; go_simp; with_reducible rfl)
              refine held_norm (a' := ?_) ?_ ?_
              rotate_left
              · (go_simp; with_reducible rfl)
              refine held_done (by kernel_rfl) ?_
              have HG6 := Lib.hid (HG.out.on hS5)
              clear hS5 hg5 hS0
              go_wp2_with fail
              exact ⟨⟨m + 1, A2, c2, css2, by omega, by go_num, by rw [HLx.out], by rw [HLx.out]; exact HG6.out⟩, by simp only [intOf]; omega⟩
            · have e2 : decide (low < (0 : Int)) = false := decide_eq_false hlo
              by_cases hra : rk ≤ low
              · have e3 : decide (rk ≤ low) = true := decide_eq_true hra
                have HLx := Lib.hid (HSk.out (HRa.out hra))
                clear HSk HPu HB2 HLo HDr HRa HBe HPt
                go_upto_region 8 with fail
                clear xl x0 x1 x2 x3 x4 x5
                have hS0 : Grew wr wr.drew := (Grew.refl wr).drew
                refine wp_region_S (fun W => Grew wr W) (by kernel_rfl) ?_
                refine held_take 0 (v := ?_) rfl (by kernel_rfl) (by kernel_rfl) (by kernel_rfl) (fun _ _ _ h => h) (by rfl) ?_ hS0 ?_
                rotate_left
                · (intro W hW; skip; go_simp; with_reducible rfl)
                refine held_take 1 (v := ?_) rfl (by kernel_rfl) (by kernel_rfl) (by kernel_rfl) (fun _ _ _ h => h) (by rfl) ?_ hS0 ?_
                rotate_left
                · (intro W hW; skip; go_simp; with_reducible rfl)
                refine held_take 2 (v := ?_) rfl (by kernel_rfl) (by kernel_rfl) (by kernel_rfl) (fun _ _ _ h => h) (by rfl) ?_ hS0 ?_
                rotate_left
                · (intro W hW; skip; go_simp; with_reducible rfl)
                refine held_take 3 (v := ?_) rfl (by kernel_rfl) (by kernel_rfl) (by kernel_rfl) (fun _ _ _ h => h) (by rfl) ?_ hS0 ?_
                rotate_left
                · (intro W hW; skip; go_simp; with_reducible rfl)
                refine held_norm (a' := ?_) ?_ ?_
                rotate_left
                · (go_simp; with_reducible rfl)
                refine held_take 4 (v := ?_) rfl (by kernel_rfl) (by kernel_rfl) (by kernel_rfl) (fun _ _ _ h => h) (by rfl) ?_ hS0 ?_
                rotate_left
                · (intro W hW; skip; go_simp; with_reducible rfl)
                refine held_take 5 (v := ?_) rfl (by kernel_rfl) (by kernel_rfl) (by kernel_rfl) (fun _ _ _ h => h) (by rfl) ?_ hS0 ?_
                rotate_left
                · (intro W hW; skip; go_simp; with_reducible rfl)
                refine held_take 6 (v := ?_) rfl (by kernel_rfl) (by kernel_rfl) (by kernel_rfl) (fun _ _ _ h => h) (by rfl) ?_ hS0 ?_
                rotate_left
                · (intro W hW; skip; go_simp; with_reducible rfl)
                refine held_norm (a' := ?_) ?_ ?_
                rotate_left
                · (go_simp; with_reducible rfl)
                refine held_take 7 (v := ?_) rfl (by kernel_rfl) (by kernel_rfl) (by kernel_rfl) (fun _ _ _ h => h) (by rfl) ?_ hS0 ?_
                rotate_left
                · (intro W hW; have hb8 := cell_keep hW hb0 hc0; have hl8 := Nat.lt_of_lt_of_le hb0 hW.size; go_simp; with_reducible rfl)
                refine held_take 8 (v := ?_) rfl (by kernel_rfl) (by kernel_rfl) (by kernel_rfl) (fun _ _ _ h => h) (by rfl) ?_ hS0 ?_
                rotate_left
                · (intro W hW; have hb8 := cell_keep hW hb0 hc0; have hl8 := Nat.lt_of_lt_of_le hb0 hW.size; go_simp; with_reducible rfl)
                refine held_norm (a' := ?_) ?_ ?_
                rotate_left
                · (go_simp; with_reducible rfl)
                refine held_take 9 (v := ?_) rfl (by kernel_rfl) (by kernel_rfl) (by kernel_rfl) (fun _ _ _ h => h) (by rfl) ?_ hS0 ?_
                rotate_left
                · (intro W hW; skip; go_simp; with_reducible rfl)
                refine held_take 10 (v := ?_) rfl (by kernel_rfl) (by kernel_rfl) (by kernel_rfl) (fun _ _ _ h => h) (by rfl) ?_ hS0 ?_
                rotate_left
                · (intro W hW; skip; go_simp; with_reducible rfl)
                refine held_norm (a' := ?_) ?_ ?_
                rotate_left
                · (go_simp; with_reducible rfl)
                refine held_take 11 (v := ?_) rfl (by kernel_rfl) (by kernel_rfl) (by kernel_rfl) (fun _ _ _ h => h) (by rfl) ?_ hS0 ?_
                rotate_left
                · (intro W hW; obtain ⟨xl, x0, x1, x2, x3, x4, x5⟩ := nm_in (HXm.out.grew hW); go_simp; with_reducible rfl)
                refine held_take 12 (v := ?_) rfl (by kernel_rfl) (by kernel_rfl) (by kernel_rfl) (fun _ _ _ h => h) (by rfl) ?_ hS0 ?_
                rotate_left
                · (intro W hW; obtain ⟨xl, x0, x1, x2, x3, x4, x5⟩ := nm_in (HXm.out.grew hW); go_simp; with_reducible rfl)
                refine held_take 13 (v := ?_) rfl (by kernel_rfl) (by kernel_rfl) (by kernel_rfl) (fun _ _ _ h => h) (by rfl) ?_ hS0 ?_
                rotate_left
                · (intro W hW; obtain ⟨xl, x0, x1, x2, x3, x4, x5⟩ := nm_in (HXm.out.grew hW); go_simp; with_reducible rfl)
                refine held_norm (a' := ?_) ?_ ?_
                rotate_left
                · (go_simp; with_reducible rfl)
                refine held_call 14 (by kernel_rfl) rfl (by rfl) (fun K hK => ?_)
                go_simp
                go_wp2_with ((go_at_call 12; (with_reducible refine (HR1.out _ ((HG0.out.trans HG.out.grew).trans hS0)).grows.mono ?_); rintro e5 w5 ⟨rfl, hg5⟩; have hS5 := hS0.trans hg5))
                refine hK.out _ _ hS5 ?_
                clear hK K
                refine held_take 15 (v := ?_) rfl (by kernel_rfl) (by kernel_rfl) (by kernel_rfl) (fun _ _ _ h => h) (by rfl) ?_ hS5 ?_
                rotate_left
                · (intro W hW; skip; go_simp; with_reducible rfl)
                refine held_take 16 (v := ?_) rfl (by kernel_rfl) (by kernel_rfl) (by kernel_rfl) (fun _ _ _ h => h) (by rfl) ?_ hS5 ?_
                rotate_left
                · (intro W hW; skip; go_simp; with_reducible rfl)
                refine held_take 17 (v := ?_) rfl (by kernel_rfl) (by kernel_rfl) (by kernel_rfl) (fun _ _ _ h => h) (by rfl) ?_ hS5 ?_
                rotate_left
                · (intro W hW; skip; go_simp; with_reducible rfl)
                refine held_norm (a' := ?_) ?_ ?_
                rotate_left
                · (go_simp; with_reducible rfl)
                refine held_take 18 (v := ?_) rfl (by kernel_rfl) (by kernel_rfl) (by kernel_rfl) (fun _ _ _ h => h) (by rfl) ?_ hS5 ?_
                rotate_left
                · (intro W hW; obtain ⟨xl, x0, x1, x2, x3, x4, x5⟩ := nm_in (HXm.out.grew hW); go_simp; with_reducible rfl)
                refine held_take 19 (v := ?_) rfl (by kernel_rfl) (by kernel_rfl) (by kernel_rfl) (fun _ _ _ h => h) (by rfl) ?_ hS5 ?_
                rotate_left
                · (intro W hW; obtain ⟨xl, x0, x1, x2, x3, x4, x5⟩ := nm_in (HXm.out.grew hW); go_simp; with_reducible rfl)
                refine held_take 20 (v := ?_) rfl (by kernel_rfl) (by kernel_rfl) (by kernel_rfl) (fun _ _ _ h => h) (by rfl) ?_ hS5 ?_
                rotate_left
                · (intro W hW; obtain ⟨xl, x0, x1, x2, x3, x4, x5⟩ := nm_in (HXm.out.grew hW); go_simp; with_reducible rfl)
                refine held_norm (a' := ?_) ?_ ?_
                rotate_left
                · (go_simp; with_reducible rfl)
                refine held_take 22 (v := ?_) rfl (by kernel_rfl) (by kernel_rfl) (by kernel_rfl) (fun _ _ _ h => h) (by rfl) ?_ hS5 ?_
                rotate_left
                · (intro W hW; obtain ⟨xl, x0, x1, x2, x3, x4, x5⟩ := nm_in (HXm.out.grew hW); go_simp; with_reducible rfl)
                refine held_take 23 (v := ?_) rfl (by kernel_rfl) (by kernel_rfl) (by kernel_rfl) (fun _ _ _ h => h) (by rfl) ?_ hS5 ?_
                rotate_left
                · (intro W hW; obtain ⟨xl, x0, x1, x2, x3, x4, x5⟩ := nm_in (HXm.out.grew hW); go_simp; with_reducible rfl)
                refine held_take 24 (v := ?_) rfl (by kernel_rfl) (by kernel_rfl) (by kernel_rfl) (fun _ _ _ h => h) (by rfl) ?_ hS5 ?_
                rotate_left
                · (intro W hW; obtain ⟨xl, x0, x1, x2, x3, x4, x5⟩ := nm_in (HXm.out.grew hW); go_simp; with_reducible rfl)
                refine held_norm (a' := ?_) ?_ ?_
                rotate_left
                · (go_simp; with_reducible rfl)
                refine held_call 21 (by kernel_rfl) rfl (by rfl) (fun K hK => ?_)
                go_simp
                go_wp2_with ((go_at_call 12; (with_reducible refine (HR2.out _ ((HG0.out.trans HG.out.grew).trans hS5)).grows.mono ?_); rintro e6 w6 ⟨rfl, hg6⟩; have hS6 := hS5.trans hg6))
                refine hK.out _ _ hS6 ?_
                clear hK K
                refine held_call 25 (by kernel_rfl) rfl (by rfl) (fun K hK => ?_)
                go_simp
                go_wp2_with ((go_at_call 12; (with_reducible refine (HR1.out _ ((HG0.out.trans HG.out.grew).trans hS6)).grows.mono ?_); rintro e7 w7 ⟨rfl, hg7⟩; have hS7 := hS6.trans hg7))
                refine hK.out _ _ hS7 ?_
                clear hK K
                refine held_take 26 (v := ?_) rfl (by kernel_rfl) (by kernel_rfl) (by kernel_rfl) (fun _ _ _ h => h) (by rfl) ?_ hS7 ?_
                rotate_left
                · (intro W hW; go_simp; with_reducible rfl)
                refine held_take 27 (v := ?_) rfl (by kernel_rfl) (by kernel_rfl) (by kernel_rfl) (fun _ _ _ h => h) (by rfl) ?_ hS7 ?_
                rotate_left
                · (intro W hW; go_simp; with_reducible rfl)
                refine held_norm (a' := ?_) ?_ ?_
                rotate_left
                · (go_simp; with_reducible rfl)
                refine held_done (by kernel_rfl) ?_
                have HG6 := Lib.hid (HG.out.on hS7)
                clear hS7 hg7 hS6 hg6 hS5 hg5 hS0
                go_wp2_with fail
                exact ⟨⟨m + 1, A2, c2, css2, by omega, by go_num, by rw [HLx.out], by rw [HLx.out]; exact HG6.out⟩, by simp only [intOf]; omega⟩
              · have e3 : decide (rk ≤ low) = false := decide_eq_false hra
                by_cases hbe : bp = []
                · subst hbe
                  have HLx := Lib.hid (HSk.out (HBe.out rfl))
                  clear HSk HPu HLo HDr HRa HBe HPt
                  go_upto_region 8 with fail
                  clear xl x0 x1 x2 x3 x4 x5
                  have hS0 : Grew wr wr.drew := (Grew.refl wr).drew
                  refine wp_region_S (fun W => Grew wr W) (by kernel_rfl) ?_
                  refine held_take 0 (v := ?_) rfl (by kernel_rfl) (by kernel_rfl) (by kernel_rfl) (fun _ _ _ h => h) (by rfl) ?_ hS0 ?_
                  rotate_left
                  · (intro W hW; skip; go_simp; with_reducible rfl)
                  refine held_take 1 (v := ?_) rfl (by kernel_rfl) (by kernel_rfl) (by kernel_rfl) (fun _ _ _ h => h) (by rfl) ?_ hS0 ?_
                  rotate_left
                  · (intro W hW; skip; go_simp; with_reducible rfl)
                  refine held_take 2 (v := ?_) rfl (by kernel_rfl) (by kernel_rfl) (by kernel_rfl) (fun _ _ _ h => h) (by rfl) ?_ hS0 ?_
                  rotate_left
                  · (intro W hW; skip; go_simp; with_reducible rfl)
                  refine held_take 3 (v := ?_) rfl (by kernel_rfl) (by kernel_rfl) (by kernel_rfl) (fun _ _ _ h => h) (by rfl) ?_ hS0 ?_
                  rotate_left
                  · (intro W hW; skip; go_simp; with_reducible rfl)
                  refine held_norm (a' := ?_) ?_ ?_
                  rotate_left
                  · (go_simp; with_reducible rfl)
                  refine held_take 4 (v := ?_) rfl (by kernel_rfl) (by kernel_rfl) (by kernel_rfl) (fun _ _ _ h => h) (by rfl) ?_ hS0 ?_
                  rotate_left
                  · (intro W hW; skip; go_simp; with_reducible rfl)
                  refine held_take 5 (v := ?_) rfl (by kernel_rfl) (by kernel_rfl) (by kernel_rfl) (fun _ _ _ h => h) (by rfl) ?_ hS0 ?_
                  rotate_left
                  · (intro W hW; skip; go_simp; with_reducible rfl)
                  refine held_take 6 (v := ?_) rfl (by kernel_rfl) (by kernel_rfl) (by kernel_rfl) (fun _ _ _ h => h) (by rfl) ?_ hS0 ?_
                  rotate_left
                  · (intro W hW; skip; go_simp; with_reducible rfl)
                  refine held_norm (a' := ?_) ?_ ?_
                  rotate_left
                  · (go_simp; with_reducible rfl)
                  refine held_take 7 (v := ?_) rfl (by kernel_rfl) (by kernel_rfl) (by kernel_rfl) (fun _ _ _ h => h) (by rfl) ?_ hS0 ?_
                  rotate_left
                  · (intro W hW; have hb8 := cell_keep hW hb0 hc0; have hl8 := Nat.lt_of_lt_of_le hb0 hW.size; go_simp; with_reducible rfl)
                  refine held_take 8 (v := ?_) rfl (by kernel_rfl) (by kernel_rfl) (by kernel_rfl) (fun _ _ _ h => h) (by rfl) ?_ hS0 ?_
                  rotate_left
                  · (intro W hW; have hb8 := cell_keep hW hb0 hc0; have hl8 := Nat.lt_of_lt_of_le hb0 hW.size; go_simp; with_reducible rfl)
                  refine held_norm (a' := ?_) ?_ ?_
                  rotate_left
                  · (go_simp; with_reducible rfl)
                  refine held_take 9 (v := ?_) rfl (by kernel_rfl) (by kernel_rfl) (by kernel_rfl) (fun _ _ _ h => h) (by rfl) ?_ hS0 ?_
                  rotate_left
                  · (intro W hW; skip; go_simp; with_reducible rfl)
                  refine held_take 10 (v := ?_) rfl (by kernel_rfl) (by kernel_rfl) (by kernel_rfl) (fun _ _ _ h => h) (by rfl) ?_ hS0 ?_
                  rotate_left
                  · (intro W hW; skip; go_simp; with_reducible rfl)
                  refine held_norm (a' := ?_) ?_ ?_
                  rotate_left
                  · (go_simp; with_reducible rfl)
                  refine held_take 11 (v := ?_) rfl (by kernel_rfl) (by kernel_rfl) (by kernel_rfl) (fun _ _ _ h => h) (by rfl) ?_ hS0 ?_
                  rotate_left
                  · (intro W hW; obtain ⟨xl, x0, x1, x2, x3, x4, x5⟩ := nm_in (HXm.out.grew hW); go_simp; with_reducible rfl)
                  refine held_take 12 (v := ?_) rfl (by kernel_rfl) (by kernel_rfl) (by kernel_rfl) (fun _ _ _ h => h) (by rfl) ?_ hS0 ?_
                  rotate_left
                  · (intro W hW; obtain ⟨xl, x0, x1, x2, x3, x4, x5⟩ := nm_in (HXm.out.grew hW); go_simp; with_reducible rfl)
                  refine held_take 13 (v := ?_) rfl (by kernel_rfl) (by kernel_rfl) (by kernel_rfl) (fun _ _ _ h => h) (by rfl) ?_ hS0 ?_
                  rotate_left
                  · (intro W hW; obtain ⟨xl, x0, x1, x2, x3, x4, x5⟩ := nm_in (HXm.out.grew hW); go_simp; with_reducible rfl)
                  refine held_norm (a' := ?_) ?_ ?_
                  rotate_left
                  · (go_simp; with_reducible rfl)
                  refine held_call 14 (by kernel_rfl) rfl (by rfl) (fun K hK => ?_)
                  go_simp
                  go_wp2_with ((go_at_call 12; (with_reducible refine (HR1.out _ ((HG0.out.trans HG.out.grew).trans hS0)).grows.mono ?_); rintro e5 w5 ⟨rfl, hg5⟩; have hS5 := hS0.trans hg5))
                  refine hK.out _ _ hS5 ?_
                  clear hK K
                  refine held_take 15 (v := ?_) rfl (by kernel_rfl) (by kernel_rfl) (by kernel_rfl) (fun _ _ _ h => h) (by rfl) ?_ hS5 ?_
                  rotate_left
                  · (intro W hW; skip; go_simp; with_reducible rfl)
                  refine held_take 16 (v := ?_) rfl (by kernel_rfl) (by kernel_rfl) (by kernel_rfl) (fun _ _ _ h => h) (by rfl) ?_ hS5 ?_
                  rotate_left
                  · (intro W hW; skip; go_simp; with_reducible rfl)
                  refine held_take 17 (v := ?_) rfl (by kernel_rfl) (by kernel_rfl) (by kernel_rfl) (fun _ _ _ h => h) (by rfl) ?_ hS5 ?_
                  rotate_left
                  · (intro W hW; skip; go_simp; with_reducible rfl)
                  refine held_norm (a' := ?_) ?_ ?_
                  rotate_left
                  · (go_simp; with_reducible rfl)
                  refine held_take 18 (v := ?_) rfl (by kernel_rfl) (by kernel_rfl) (by kernel_rfl) (fun _ _ _ h => h) (by rfl) ?_ hS5 ?_
                  rotate_left
                  · (intro W hW; obtain ⟨xl, x0, x1, x2, x3, x4, x5⟩ := nm_in (HXm.out.grew hW); go_simp; with_reducible rfl)
                  refine held_take 19 (v := ?_) rfl (by kernel_rfl) (by kernel_rfl) (by kernel_rfl) (fun _ _ _ h => h) (by rfl) ?_ hS5 ?_
                  rotate_left
                  · (intro W hW; obtain ⟨xl, x0, x1, x2, x3, x4, x5⟩ := nm_in (HXm.out.grew hW); go_simp; with_reducible rfl)
                  refine held_take 20 (v := ?_) rfl (by kernel_rfl) (by kernel_rfl) (by kernel_rfl) (fun _ _ _ h => h) (by rfl) ?_ hS5 ?_
                  rotate_left
                  · (intro W hW; obtain ⟨xl, x0, x1, x2, x3, x4, x5⟩ := nm_in (HXm.out.grew hW); go_simp; with_reducible rfl)
                  refine held_norm (a' := ?_) ?_ ?_
                  rotate_left
                  · (go_simp; with_reducible rfl)
                  refine held_take 22 (v := ?_) rfl (by kernel_rfl) (by kernel_rfl) (by kernel_rfl) (fun _ _ _ h => h) (by rfl) ?_ hS5 ?_
                  rotate_left
                  · (intro W hW; obtain ⟨xl, x0, x1, x2, x3, x4, x5⟩ := nm_in (HXm.out.grew hW); go_simp; with_reducible rfl)
                  refine held_take 23 (v := ?_) rfl (by kernel_rfl) (by kernel_rfl) (by kernel_rfl) (fun _ _ _ h => h) (by rfl) ?_ hS5 ?_
                  rotate_left
                  · (intro W hW; obtain ⟨xl, x0, x1, x2, x3, x4, x5⟩ := nm_in (HXm.out.grew hW); go_simp; with_reducible rfl)
                  refine held_take 24 (v := ?_) rfl (by kernel_rfl) (by kernel_rfl) (by kernel_rfl) (fun _ _ _ h => h) (by rfl) ?_ hS5 ?_
                  rotate_left
                  · (intro W hW; obtain ⟨xl, x0, x1, x2, x3, x4, x5⟩ := nm_in (HXm.out.grew hW); go_simp; with_reducible rfl)
                  refine held_norm (a' := ?_) ?_ ?_
                  rotate_left
                  · (go_simp; with_reducible rfl)
                  refine held_call 21 (by kernel_rfl) rfl (by rfl) (fun K hK => ?_)
                  go_simp
                  go_wp2_with ((go_at_call 12; (with_reducible refine (HR2.out _ ((HG0.out.trans HG.out.grew).trans hS5)).grows.mono ?_); rintro e6 w6 ⟨rfl, hg6⟩; have hS6 := hS5.trans hg6))
                  refine hK.out _ _ hS6 ?_
                  clear hK K
                  refine held_call 25 (by kernel_rfl) rfl (by rfl) (fun K hK => ?_)
                  go_simp
                  go_wp2_with ((go_at_call 12; (with_reducible refine (HR1.out _ ((HG0.out.trans HG.out.grew).trans hS6)).grows.mono ?_); rintro e7 w7 ⟨rfl, hg7⟩; have hS7 := hS6.trans hg7))
                  refine hK.out _ _ hS7 ?_
                  clear hK K
                  refine held_take 26 (v := ?_) rfl (by kernel_rfl) (by kernel_rfl) (by kernel_rfl) (fun _ _ _ h => h) (by rfl) ?_ hS7 ?_
                  rotate_left
                  · (intro W hW; go_simp; with_reducible rfl)
                  refine held_take 27 (v := ?_) rfl (by kernel_rfl) (by kernel_rfl) (by kernel_rfl) (fun _ _ _ h => h) (by rfl) ?_ hS7 ?_
                  rotate_left
                  · (intro W hW; go_simp; with_reducible rfl)
                  refine held_norm (a' := ?_) ?_ ?_
                  rotate_left
                  · (go_simp; with_reducible rfl)
                  refine held_done (by kernel_rfl) ?_
                  have HG6 := Lib.hid (HG.out.on hS7)
                  clear hS7 hg7 hS6 hg6 hS5 hg5 hS0
                  obtain ⟨xl, x0, x1, x2, x3, x4, x5⟩ := nm_in (HX0.out.grew HG6.out.grew)
                  go_wp2_with (go_at_call 32; (with_reducible refine (HB2.out _ (HG0.out.trans HG6.out.grew)).mono ?_); rintro e7 w7 ⟨va, vb, rfl, hg7, A7, c7, B7, d7, rfl, rfl, _, _⟩; have HG7 := Lib.hid (HG6.out.on hg7); clear hg7)
                  exact ⟨⟨m + 1, A2, c2, css2, by omega, by go_num, by rw [HLx.out], by rw [HLx.out]; exact HG7.out⟩, by simp only [intOf]; omega⟩
                · have HLx := Lib.hid (HPu.out _ (HPt.out hlo (by rw [HZz.out]; simpa using hy) hra hbe))
                  have hbl : 0 < bp.length := List.length_pos_iff.2 hbe
                  have HBl : Hid (0 < (lcP bp).length) := Lib.hid (by rw [lcP_len]; exact hbl)
                  clear HSk HPu HLo HDr HRa HBe HPt hbe hbl
                  go_upto_region 8 with fail
                  clear xl x0 x1 x2 x3 x4 x5
                  have hS0 : Grew wr wr.drew := (Grew.refl wr).drew
                  refine wp_region_S (fun W => Grew wr W) (by kernel_rfl) ?_
                  refine held_take 0 (v := ?_) rfl (by kernel_rfl) (by kernel_rfl) (by kernel_rfl) (fun _ _ _ h => h) (by rfl) ?_ hS0 ?_
                  rotate_left
                  · (intro W hW; skip; go_simp; with_reducible rfl)
                  refine held_take 1 (v := ?_) rfl (by kernel_rfl) (by kernel_rfl) (by kernel_rfl) (fun _ _ _ h => h) (by rfl) ?_ hS0 ?_
                  rotate_left
                  · (intro W hW; skip; go_simp; with_reducible rfl)
                  refine held_take 2 (v := ?_) rfl (by kernel_rfl) (by kernel_rfl) (by kernel_rfl) (fun _ _ _ h => h) (by rfl) ?_ hS0 ?_
                  rotate_left
                  · (intro W hW; skip; go_simp; with_reducible rfl)
                  refine held_take 3 (v := ?_) rfl (by kernel_rfl) (by kernel_rfl) (by kernel_rfl) (fun _ _ _ h => h) (by rfl) ?_ hS0 ?_
                  rotate_left
                  · (intro W hW; skip; go_simp; with_reducible rfl)
                  refine held_norm (a' := ?_) ?_ ?_
                  rotate_left
                  · (go_simp; with_reducible rfl)
                  refine held_take 4 (v := ?_) rfl (by kernel_rfl) (by kernel_rfl) (by kernel_rfl) (fun _ _ _ h => h) (by rfl) ?_ hS0 ?_
                  rotate_left
                  · (intro W hW; skip; go_simp; with_reducible rfl)
                  refine held_take 5 (v := ?_) rfl (by kernel_rfl) (by kernel_rfl) (by kernel_rfl) (fun _ _ _ h => h) (by rfl) ?_ hS0 ?_
                  rotate_left
                  · (intro W hW; skip; go_simp; with_reducible rfl)
                  refine held_take 6 (v := ?_) rfl (by kernel_rfl) (by kernel_rfl) (by kernel_rfl) (fun _ _ _ h => h) (by rfl) ?_ hS0 ?_
                  rotate_left
                  · (intro W hW; skip; go_simp; with_reducible rfl)
                  refine held_norm (a' := ?_) ?_ ?_
                  rotate_left
                  · (go_simp; with_reducible rfl)
                  refine held_take 7 (v := ?_) rfl (by kernel_rfl) (by kernel_rfl) (by kernel_rfl) (fun _ _ _ h => h) (by rfl) ?_ hS0 ?_
                  rotate_left
                  · (intro W hW; have hb8 := cell_keep hW hb0 hc0; have hl8 := Nat.lt_of_lt_of_le hb0 hW.size; go_simp; with_reducible rfl)
                  refine held_take 8 (v := ?_) rfl (by kernel_rfl) (by kernel_rfl) (by kernel_rfl) (fun _ _ _ h => h) (by rfl) ?_ hS0 ?_
                  rotate_left
                  · (intro W hW; have hb8 := cell_keep hW hb0 hc0; have hl8 := Nat.lt_of_lt_of_le hb0 hW.size; go_simp; with_reducible rfl)
                  refine held_norm (a' := ?_) ?_ ?_
                  rotate_left
                  · (go_simp; with_reducible rfl)
                  refine held_take 9 (v := ?_) rfl (by kernel_rfl) (by kernel_rfl) (by kernel_rfl) (fun _ _ _ h => h) (by rfl) ?_ hS0 ?_
                  rotate_left
                  · (intro W hW; skip; go_simp; with_reducible rfl)
                  refine held_take 10 (v := ?_) rfl (by kernel_rfl) (by kernel_rfl) (by kernel_rfl) (fun _ _ _ h => h) (by rfl) ?_ hS0 ?_
                  rotate_left
                  · (intro W hW; skip; go_simp; with_reducible rfl)
                  refine held_norm (a' := ?_) ?_ ?_
                  rotate_left
                  · (go_simp; with_reducible rfl)
                  refine held_take 11 (v := ?_) rfl (by kernel_rfl) (by kernel_rfl) (by kernel_rfl) (fun _ _ _ h => h) (by rfl) ?_ hS0 ?_
                  rotate_left
                  · (intro W hW; obtain ⟨xl, x0, x1, x2, x3, x4, x5⟩ := nm_in (HXm.out.grew hW); go_simp; with_reducible rfl)
                  refine held_take 12 (v := ?_) rfl (by kernel_rfl) (by kernel_rfl) (by kernel_rfl) (fun _ _ _ h => h) (by rfl) ?_ hS0 ?_
                  rotate_left
                  · (intro W hW; obtain ⟨xl, x0, x1, x2, x3, x4, x5⟩ := nm_in (HXm.out.grew hW); go_simp; with_reducible rfl)
                  refine held_take 13 (v := ?_) rfl (by kernel_rfl) (by kernel_rfl) (by kernel_rfl) (fun _ _ _ h => h) (by rfl) ?_ hS0 ?_
                  rotate_left
                  · (intro W hW; obtain ⟨xl, x0, x1, x2, x3, x4, x5⟩ := nm_in (HXm.out.grew hW); go_simp; with_reducible rfl)
                  refine held_norm (a' := ?_) ?_ ?_
                  rotate_left
                  · (go_simp; with_reducible rfl)
                  refine held_call 14 (by kernel_rfl) rfl (by rfl) (fun K hK => ?_)
                  go_simp
                  go_wp2_with ((go_at_call 12; (with_reducible refine (HR1.out _ ((HG0.out.trans HG.out.grew).trans hS0)).grows.mono ?_); rintro e5 w5 ⟨rfl, hg5⟩; have hS5 := hS0.trans hg5))
                  refine hK.out _ _ hS5 ?_
                  clear hK K
                  refine held_take 15 (v := ?_) rfl (by kernel_rfl) (by kernel_rfl) (by kernel_rfl) (fun _ _ _ h => h) (by rfl) ?_ hS5 ?_
                  rotate_left
                  · (intro W hW; skip; go_simp; with_reducible rfl)
                  refine held_take 16 (v := ?_) rfl (by kernel_rfl) (by kernel_rfl) (by kernel_rfl) (fun _ _ _ h => h) (by rfl) ?_ hS5 ?_
                  rotate_left
                  · (intro W hW; skip; go_simp; with_reducible rfl)
                  refine held_take 17 (v := ?_) rfl (by kernel_rfl) (by kernel_rfl) (by kernel_rfl) (fun _ _ _ h => h) (by rfl) ?_ hS5 ?_
                  rotate_left
                  · (intro W hW; skip; go_simp; with_reducible rfl)
                  refine held_norm (a' := ?_) ?_ ?_
                  rotate_left
                  · (go_simp; with_reducible rfl)
                  refine held_take 18 (v := ?_) rfl (by kernel_rfl) (by kernel_rfl) (by kernel_rfl) (fun _ _ _ h => h) (by rfl) ?_ hS5 ?_
                  rotate_left
                  · (intro W hW; obtain ⟨xl, x0, x1, x2, x3, x4, x5⟩ := nm_in (HXm.out.grew hW); go_simp; with_reducible rfl)
                  refine held_take 19 (v := ?_) rfl (by kernel_rfl) (by kernel_rfl) (by kernel_rfl) (fun _ _ _ h => h) (by rfl) ?_ hS5 ?_
                  rotate_left
                  · (intro W hW; obtain ⟨xl, x0, x1, x2, x3, x4, x5⟩ := nm_in (HXm.out.grew hW); go_simp; with_reducible rfl)
                  refine held_take 20 (v := ?_) rfl (by kernel_rfl) (by kernel_rfl) (by kernel_rfl) (fun _ _ _ h => h) (by rfl) ?_ hS5 ?_
                  rotate_left
                  · (intro W hW; obtain ⟨xl, x0, x1, x2, x3, x4, x5⟩ := nm_in (HXm.out.grew hW); go_simp; with_reducible rfl)
                  refine held_norm (a' := ?_) ?_ ?_
                  rotate_left
                  · (go_simp; with_reducible rfl)
                  refine held_take 22 (v := ?_) rfl (by kernel_rfl) (by kernel_rfl) (by kernel_rfl) (fun _ _ _ h => h) (by rfl) ?_ hS5 ?_
                  rotate_left
                  · (intro W hW; obtain ⟨xl, x0, x1, x2, x3, x4, x5⟩ := nm_in (HXm.out.grew hW); go_simp; with_reducible rfl)
                  refine held_take 23 (v := ?_) rfl (by kernel_rfl) (by kernel_rfl) (by kernel_rfl) (fun _ _ _ h => h) (by rfl) ?_ hS5 ?_
                  rotate_left
                  · (intro W hW; obtain ⟨xl, x0, x1, x2, x3, x4, x5⟩ := nm_in (HXm.out.grew hW); go_simp; with_reducible rfl)
                  refine held_take 24 (v := ?_) rfl (by kernel_rfl) (by kernel_rfl) (by kernel_rfl) (fun _ _ _ h => h) (by rfl) ?_ hS5 ?_
                  rotate_left
                  · (intro W hW; obtain ⟨xl, x0, x1, x2, x3, x4, x5⟩ := nm_in (HXm.out.grew hW); go_simp; with_reducible rfl)
                  refine held_norm (a' := ?_) ?_ ?_
                  rotate_left
                  · (go_simp; with_reducible rfl)
                  refine held_call 21 (by kernel_rfl) rfl (by rfl) (fun K hK => ?_)
                  go_simp
                  go_wp2_with ((go_at_call 12; (with_reducible refine (HR2.out _ ((HG0.out.trans HG.out.grew).trans hS5)).grows.mono ?_); rintro e6 w6 ⟨rfl, hg6⟩; have hS6 := hS5.trans hg6))
                  refine hK.out _ _ hS6 ?_
                  clear hK K
                  refine held_call 25 (by kernel_rfl) rfl (by rfl) (fun K hK => ?_)
                  go_simp
                  go_wp2_with ((go_at_call 12; (with_reducible refine (HR1.out _ ((HG0.out.trans HG.out.grew).trans hS6)).grows.mono ?_); rintro e7 w7 ⟨rfl, hg7⟩; have hS7 := hS6.trans hg7))
                  refine hK.out _ _ hS7 ?_
                  clear hK K
                  refine held_take 26 (v := ?_) rfl (by kernel_rfl) (by kernel_rfl) (by kernel_rfl) (fun _ _ _ h => h) (by rfl) ?_ hS7 ?_
                  rotate_left
                  · (intro W hW; go_simp; with_reducible rfl)
                  refine held_take 27 (v := ?_) rfl (by kernel_rfl) (by kernel_rfl) (by kernel_rfl) (fun _ _ _ h => h) (by rfl) ?_ hS7 ?_
                  rotate_left
                  · (intro W hW; go_simp; with_reducible rfl)
                  refine held_norm (a' := ?_) ?_ ?_
                  rotate_left
                  · (go_simp; with_reducible rfl)
                  refine held_done (by kernel_rfl) ?_
                  have HG6 := Lib.hid (HG.out.on hS7)
                  clear hS7 hg7 hS6 hg6 hS5 hg5 hS0
                  obtain ⟨xl, x0, x1, x2, x3, x4, x5⟩ := nm_in (HX0.out.grew HG6.out.grew)
                  go_upto_region 10 with (go_at_call 32; (with_reducible refine (HB2.out _ (HG0.out.trans HG6.out.grew)).mono ?_); rintro e7 w7 ⟨va, vb, rfl, hg7, A7, c7, B7, d7, rfl, rfl, ha7, hb7⟩; have HG7 := Lib.hid (HG6.out.on hg7); have HFv := Lib.hid (BetR.fv (u := W0) (x := ⟨m, q, bp⟩) (w := w7) ⟨A7, c7, B7, d7, rfl, rfl, ha7, hb7⟩ HG6.out.grew.size); clear hg7 ha7 hb7)
                  clear xl x0 x1 x2 x3 x4 x5
                  have hBl := HBl.out
                  have e4 : decide ((0 : Int) < ((lcP bp).length : Int)) = true := decide_eq_true (by omega)
                  generalize (lcP bp).length = n1 at *
                  generalize (rcP bp).length = n2 at *
                  go_wp2_with (at_builtin; refine wpList_appB rfl _ _ 39 43 4 rfl W0.heap.size (.agg #[.int .i64 0, .slice none 0 0, .int .i64 0, .slice none 0 0]) 64 Try.underlying39 infoFl rfl (by decide) (by decide) _ (flL cl n l order q m).length css2.flatten rfl (HG7.out.on ((Grew.refl _).alloc _)).own _ 1 1 [.int .i64 m, .slice A7 n1 c7, .int .i64 q, .slice B7 n2 d7] rfl rfl (row_new _ 43 _ #[.int .i64 m, .slice A7 n1 c7, .int .i64 q, .slice B7 n2 d7] rfl) (by simp [Value.oneCell']) (by omega) (by rw [World.size_alloc]; have := HG7.out.grew.size; omega) ?_; intro A8 c8 w8 ho8 hg8; have HG8 := Lib.hid ((HG7.out.on ((Grew.refl _).alloc (.cells #[.int .i64 m, .slice A7 n1 c7, .int .i64 q, .slice B7 n2 d7] 43))).snoc (HFv.out.impI fun _ _ hm => hm.grew ((Grew.refl _).alloc _)) ho8 hg8); clear ho8 hg8)
                  exact ⟨⟨m + 1, A8, c8, css2 ++ [[.int .i64 m, .slice A7 n1 c7, .int .i64 q, .slice B7 n2 d7]], by omega, by go_num, by rw [HLx.out, List.length_append]; rfl, by rw [HLx.out]; exact HG8.out⟩, by simp only [intOf]; omega⟩
        · obtain rfl : m = M := by omega
          have HFq := Lib.hid (HFu.out q)
          have hs1 := HG.out
          rw [HFq.out] at hs1
          have HGn := Lib.hid hs1
          clear hs1
          rw [HFq.out]
          clear HG hle HLn HFq HFu
          go_wp2_with fail
          exact ⟨⟨q + 1, A2, c2, css2, by omega, by go_num, rfl, HGn.out⟩, by simp only [intOf]; omega⟩
    · obtain rfl : q = M := by omega
      have hd := HGo.out.done
      rw [flL_zero] at hd ⊢
      have HF := Lib.hid hd
      clear hd
      go_wp2
      go_ret
      exact ⟨A1, c1, rfl, HG0.out.trans HGo.out.grew, HF.out⟩
end Go.Proofs.Ytoaciliojdaoaaa
