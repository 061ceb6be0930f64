/- Layer 39: the law of bytes that are got. Condition: bytes that lie in memory that is there. -/
import Derived.Test.YtcokhgomibimcaaAskMath4
import Derived.Test.YtcokhgomibimcaaAsk6
import Derived.Test.YtcokhgomibimcaaCode12
namespace Go.Proofs.Ytcokhgomibimcaa
open Go.RowKit
attribute [local go_sem] more_cell more_frozen more_more more_setCell more_of_drew more_of_drewN lt_more le_more past_cell past_cell2 past_frozen past_frozen2 past_setCell past_setCell2 mid_cell mid_frozen mid_setCell
attribute [local go_sem ↓] Go.wp_at_zero Go.wp_at_succ

theorem num_law (n : Int) (w : World) : Calls Try.prog 30 #[.int .i64 n] w fun e w' => e = .returned (.int .i64 n) ∧ w' = w := by
  go_enter Try.func30, Try.ntmps30
  go_wp2
  go_ret
  exact ⟨rfl, rfl⟩
theorem askR_open {w : World} {B : Nat} {a : AskS} {v : Value} (h : AskR (TRow B w) a v) : ∃ Q P j k, v = askV a Q P j k ∧ StatsR (PRow w) Q a.stats ∧ Row w P (iV a.picks) := by
  obtain ⟨Q, j, P, k, h1, h2, h3⟩ := h
  exact ⟨Q, P, j, k, h1, h2.map (fun _ _ _ h => h.plain), h3.plain⟩
def askCs' (a : AskS) (Q P : Option Addr) (j k : Nat) : Array Value := askCs (.slice Q a.stats.length j) a.force a.o (.slice P a.picks.length k)
set_option maxHeartbeats 8000000 in
set_option maxRecDepth 100000 in
theorem codeGets_walk (b : List Nat) (B : Option Addr) (cb : Nat) (hcb : b.length ≤ cb) (hob : bytesOk b) (hsz : b.length ≤ 1000000000000000) (w : World) (rb : Row w B (bV b)) :
    Gives Try.prog 5 #[.slice B b.length cb] w (.bool true) := by
  unfold Gives
  have RB := Lib.hid rb
  by_cases hbig : 1000 < b.length
  · clear rb hob
    go_enter Try.func5, Try.ntmps5
    go_wp2_with (first | (go_at_call 15; refine (live39_any _).mono ?_; rintro e w' ⟨rfl, x, rfl⟩))
    go_ret
    exact ⟨rfl, by (show Grew _ _; repeat (first | exact Grew.refl _ | refine Grew.alloc ?_ _ | refine Grew.drew ?_ | refine Grew.more ?_ _))⟩
  have HG1 : Hid (Calls Try.prog 27 #[.slice B b.length cb] w (GetT w (getA b))) := Lib.hid (get_any b B cb hcb (by omega) hob w rb)
  have HG2 : Hid (∀ W, Grew w W → Calls Try.prog 31 #[.slice B b.length cb] W (GetT W (getA b))) := Lib.hid fun W hW => rget_any b B cb hcb (by omega) hob W (rb.grew hW)
  have HSm := Lib.hid (getA_small hob (by omega : b.length ≤ 10000))
  have HOk : Hid ((getA b).2 = 0 → okA (getA b).1 ∧ putA (getA b).1 = b) := Lib.hid fun h => ⟨getA_ok hob (by omega) h, getA_inv hob h⟩
  have hcode := getA_code b
  clear rb hob
  generalize getA b = r at *
  obtain ⟨a, code⟩ := r
  simp only at hcode
  go_enter Try.func5, Try.ntmps5
  go_wp2_with fail
  refine HG1.out.mono ?_
  rintro e w1 ⟨v1, rfl, ha1, hg1⟩
  obtain ⟨Q1, P1, j1, k1, rfl, hs1, hp1⟩ := askR_open ha1
  have S1 := Lib.hid hs1
  have R1 := Lib.hid hp1
  have H1 := Lib.hid hg1
  clear ha1 hs1 hp1 hg1
  simp only [askV]
  go_wp2_with fail
  have B1 : Blok (w1.alloc (.cells (askCs' a Q1 P1 j1 k1) 39)) w1.heap.size 39 (askCs' a Q1 P1 j1 k1) := Blok.new _ _ _ _ rfl
  refine (HG2.out _ (H1.out.alloc _)).mono ?_
  rintro e w2 ⟨v2, rfl, ha2, hg2⟩
  obtain ⟨Q2, P2, j2, k2, rfl, hs2, hp2⟩ := askR_open ha2
  have S2 := Lib.hid hs2
  have R2 := Lib.hid hp2
  have H2 := Lib.hid ((H1.out.alloc _).trans hg2)
  have HB1 : Hid (Blok w2 w1.heap.size 39 (askCs' a Q1 P1 j1 k1)) := Lib.hid (B1.grew hg2)
  have S1 := Lib.hid (S1.out.grew (((Grew.refl w1).alloc _).trans hg2))
  have R1 := Lib.hid (R1.out.grew (((Grew.refl w1).alloc _).trans hg2))
  clear ha2 hs2 hp2 hg2 B1
  simp only [askV]
  have hC : Hid (∀ W, Grew w2 W → Gives Try.prog 29 #[.agg #[.slice Q1 a.stats.length j1, .bool a.force, .int .i64 a.o.o0, .int .i64 a.o.o1, .int .i64 a.o.o2, .int .i64 a.o.o3, .int .i64 a.o.o4, .int .i64 a.o.o5, .slice P1 a.picks.length k1], .agg #[.slice Q2 a.stats.length j2, .bool a.force, .int .i64 a.o.o0, .int .i64 a.o.o1, .int .i64 a.o.o2, .int .i64 a.o.o3, .int .i64 a.o.o4, .int .i64 a.o.o5, .slice P2 a.picks.length k2]] W (.bool true)) := Lib.hid fun W hW => sameask_same a Q1 P1 Q2 P2 j1 k1 j2 k2 HSm.out W (S1.out.grew hW) (R1.out.grew hW) (S2.out.grew hW) (R2.out.grew hW)
  have hP : Hid (code = 0 → ∀ W, Grew w2 W → Calls Try.prog 26 #[.agg #[.slice Q1 a.stats.length j1, .bool a.force, .int .i64 a.o.o0, .int .i64 a.o.o1, .int .i64 a.o.o2, .int .i64 a.o.o3, .int .i64 a.o.o4, .int .i64 a.o.o5, .slice P1 a.picks.length k1]] W (PutF W b)) := Lib.hid fun h0 W hW => by
    have h := put_walk a Q1 P1 j1 k1 (HOk.out h0).1 W (S1.out.grew hW) (R1.out.grew hW)
    rw [(HOk.out h0).2] at h
    exact h
  have RB2 := Lib.hid (RB.out.grew H2.out)
  clear HSm HOk S1 S2 R1 R2 HG1 HG2
  obtain ⟨ts, fo, o, pk⟩ := a
  obtain ⟨o0, o1, o2, o3, o4, o5⟩ := o
  simp only at *
  have hblk := HB1.out
  have HB2 : Hid (Blok w2 w1.heap.size 39 #[.slice Q1 ts.length j1, .bool fo, .int .i64 o0, .int .i64 o1, .int .i64 o2, .int .i64 o3, .int .i64 o4, .int .i64 o5, .slice P1 pk.length k1]) := Lib.hid hblk
  clear hblk HB1
  have d0 := HB2.out.cell 0
  have d1 := HB2.out.cell 1
  have d2 := HB2.out.cell 2
  have d3 := HB2.out.cell 3
  have d4 := HB2.out.cell 4
  have d5 := HB2.out.cell 5
  have d6 := HB2.out.cell 6
  have d7 := HB2.out.cell 7
  have d8 := HB2.out.cell 8
  simp at d0 d1 d2 d3 d4 d5 d6 d7 d8
  have hlt := HB2.out.lt
  have en : (code != code) = false := by simp
  go_upto_region 7 with (first | (go_at_call 29; (with_reducible refine (hC.out _ (by repeat (first | exact Grew.refl _ | apply Grew.alloc))).grows.mono ?_); rintro e w3 ⟨rfl, hg3⟩; have H3 := Lib.hid hg3; clear hg3) | (go_at_call 30; refine (num_law _ _).mono ?_; rintro e w4 ⟨rfl, hw⟩; have hw := hw.symm; subst hw))
  have H23 : Hid (Grew w2 w3) := Lib.hid (Grew.trans (by repeat (first | exact Grew.refl _ | apply Grew.alloc)) H3.out)
  have HB3 := Lib.hid (HB2.out.grew H23.out)
  have RB3 := Lib.hid (RB2.out.grew H23.out)
  have HW3 := Lib.hid (H2.out.trans H23.out)
  clear H3 hC en d0 d1 d2 d3 d4 d5 d6 d7 d8 hlt
  rcases hcode with rfl | rfl
  · have hP3 : Hid (∀ W, Grew w3 W → Calls Try.prog 26 #[.agg #[.slice Q1 ts.length j1, .bool fo, .int .i64 o0, .int .i64 o1, .int .i64 o2, .int .i64 o3, .int .i64 o4, .int .i64 o5, .slice P1 pk.length k1]] W (PutF W b)) := Lib.hid fun W hW => hP.out rfl W (H23.out.trans hW)
    have CVB : Hid (∀ W, Grew w3 W → (convert 22 9 (.slice B b.length cb)).run Try.prog W = .ok (.string (strN b)) W) := Lib.hid fun W hW => run_str b _ rfl B cb W (RB3.out.grew hW)
    have eb := strN_eqT (rfl : b = b)
    clear hP
    refine wp_region_grew (by kernel_rfl) ?_
    refine held_take 0 (v := ?_) rfl (by kernel_rfl) (by kernel_rfl) (by kernel_rfl) (fun _ _ _ h => h) (by rfl) ?_ (Grew.refl _).drew ?_
    rotate_left
    · (intro W hW; go_simp; with_reducible rfl)
    refine held_take 1 (v := ?_) rfl (by kernel_rfl) (by kernel_rfl) (by kernel_rfl) (fun _ _ _ h => h) (by rfl) ?_ (Grew.refl _).drew ?_
    rotate_left
    · (intro W hW; go_simp; with_reducible rfl)
    refine held_take 2 (v := ?_) rfl (by kernel_rfl) (by kernel_rfl) (by kernel_rfl) (fun _ _ _ h => h) (by rfl) ?_ (Grew.refl _).drew ?_
    rotate_left
    · (intro W hW; go_simp; with_reducible rfl)
    refine held_take 6 (v := ?_) rfl (by kernel_rfl) (by kernel_rfl) (by kernel_rfl) (fun _ _ _ h => h) (by rfl) ?_ (Grew.refl _).drew ?_
    rotate_left
    · (intro W hW; go_simp; with_reducible rfl)
    refine held_norm (a' := ?_) ?_ ?_
    rotate_left
    · (go_simp; with_reducible rfl)
    refine held_take 3 (v := ?_) rfl (by kernel_rfl) (by kernel_rfl) (by kernel_rfl) (fun _ _ _ h => h) (by rfl) ?_ (Grew.refl _).drew ?_
    rotate_left
    · (intro W hW; have qb := HB3.out.grew hW; have q0 := qb.cell 0; have q1 := qb.cell 1; have q2 := qb.cell 2; have q3 := qb.cell 3; have q4 := qb.cell 4; have q5 := qb.cell 5; have q6 := qb.cell 6; have q7 := qb.cell 7; have q8 := qb.cell 8; simp at q0 q1 q2 q3 q4 q5 q6 q7 q8; go_simp; with_reducible rfl)
    refine held_norm (a' := ?_) ?_ ?_
    rotate_left
    · (go_simp; with_reducible rfl)
    refine held_take 7 (v := ?_) rfl (by kernel_rfl) (by kernel_rfl) (by kernel_rfl) (fun _ _ _ h => h) (by rfl) ?_ (Grew.refl _).drew ?_
    rotate_left
    · (intro W hW; have q := CVB.out W hW; go_simp; with_reducible rfl)
    refine held_norm (a' := ?_) ?_ ?_
    rotate_left
    · (go_simp; with_reducible rfl)
    refine held_call 4 (by kernel_rfl) rfl (by rfl) (fun K hK => ?_)
    go_simp
    go_wp2_with (go_at_call 26; (with_reducible refine (hP3.out _ (Grew.refl _).drew).mono ?_); rintro e w5 ⟨A5, c5, rfl, ho5, hg5⟩; have G5 := Lib.hid ((Grew.refl w3).drew.trans hg5); have CV5 := run_str b _ rfl A5 c5 w5 (put_row ho5); clear ho5 hg5)
    refine hK.out _ _ G5.out ?_
    clear hK K
    refine held_call 5 (by kernel_rfl) rfl (by rfl) (fun K hK => ?_)
    go_simp
    go_wp2_with (fail)
    refine hK.out _ _ G5.out ?_
    clear hK K
    refine held_take 8 (v := ?_) rfl (by kernel_rfl) (by kernel_rfl) (by kernel_rfl) (fun _ _ _ h => h) (by rfl) ?_ G5.out ?_
    rotate_left
    · (intro W hW; go_simp; with_reducible rfl)
    refine held_take 9 (v := ?_) rfl (by kernel_rfl) (by kernel_rfl) (by kernel_rfl) (fun _ _ _ h => h) (by rfl) ?_ G5.out ?_
    rotate_left
    · (intro W hW; go_simp; with_reducible rfl)
    refine held_take 10 (v := ?_) rfl (by kernel_rfl) (by kernel_rfl) (by kernel_rfl) (fun _ _ _ h => h) (by rfl) ?_ G5.out ?_
    rotate_left
    · (intro W hW; go_simp; with_reducible rfl)
    refine held_norm (a' := ?_) ?_ ?_
    rotate_left
    · (go_simp; with_reducible rfl)
    clear CV5
    refine held_call 11 (by kernel_rfl) rfl (by rfl) (fun K hK => ?_)
    go_simp
    go_wp2_with (go_at_call 15; (with_reducible refine (live39_any _).grows.mono ?_); rintro e w6 ⟨rfl, hg6⟩; have G6 := Lib.hid (G5.out.trans hg6); clear hg6)
    refine hK.out _ _ G6.out ?_
    clear hK K
    refine held_take 12 (v := ?_) rfl (by kernel_rfl) (by kernel_rfl) (by kernel_rfl) (fun _ _ _ h => h) (by rfl) ?_ G6.out ?_
    rotate_left
    · (intro W hW; go_simp; with_reducible rfl)
    refine held_take 13 (v := ?_) rfl (by kernel_rfl) (by kernel_rfl) (by kernel_rfl) (fun _ _ _ h => h) (by rfl) ?_ G6.out ?_
    rotate_left
    · (intro W hW; go_simp; with_reducible rfl)
    refine held_norm (a' := ?_) ?_ ?_
    rotate_left
    · (go_simp; with_reducible rfl)
    refine held_done (by kernel_rfl) ?_
    go_wp2
    go_ret
    exact ⟨rfl, HW3.out.trans G6.out⟩
  · clear hP
    refine wp_region_grew (by kernel_rfl) ?_
    refine held_take 0 (v := ?_) rfl (by kernel_rfl) (by kernel_rfl) (by kernel_rfl) (fun _ _ _ h => h) (by rfl) ?_ (Grew.refl _).drew ?_
    rotate_left
    · (intro W hW; go_simp; with_reducible rfl)
    refine held_take 1 (v := ?_) rfl (by kernel_rfl) (by kernel_rfl) (by kernel_rfl) (fun _ _ _ h => h) (by rfl) ?_ (Grew.refl _).drew ?_
    rotate_left
    · (intro W hW; go_simp; with_reducible rfl)
    refine held_take 2 (v := ?_) rfl (by kernel_rfl) (by kernel_rfl) (by kernel_rfl) (fun _ _ _ h => h) (by rfl) ?_ (Grew.refl _).drew ?_
    rotate_left
    · (intro W hW; go_simp; with_reducible rfl)
    refine held_norm (a' := ?_) ?_ ?_
    rotate_left
    · (go_simp; with_reducible rfl)
    refine held_skip 3 rfl (by kernel_rfl) (by kernel_rfl) (by kernel_rfl) (fun _ _ _ h => h) (by rfl) (Grew.refl _).drew ?_
    refine held_skip 4 rfl (by kernel_rfl) (by kernel_rfl) (by kernel_rfl) (fun _ _ _ h => h) (by rfl) (Grew.refl _).drew ?_
    refine held_skip 5 rfl (by kernel_rfl) (by kernel_rfl) (by kernel_rfl) (fun _ _ _ h => h) (by rfl) (Grew.refl _).drew ?_
    refine held_skip 6 rfl (by kernel_rfl) (by kernel_rfl) (by kernel_rfl) (fun _ _ _ h => h) (by rfl) (Grew.refl _).drew ?_
    refine held_skip 7 rfl (by kernel_rfl) (by kernel_rfl) (by kernel_rfl) (fun _ _ _ h => h) (by rfl) (Grew.refl _).drew ?_
    refine held_skip 8 rfl (by kernel_rfl) (by kernel_rfl) (by kernel_rfl) (fun _ _ _ h => h) (by rfl) (Grew.refl _).drew ?_
    refine held_take 9 (v := ?_) rfl (by kernel_rfl) (by kernel_rfl) (by kernel_rfl) (fun _ _ _ h => h) (by rfl) ?_ (Grew.refl _).drew ?_
    rotate_left
    · (intro W hW; go_simp; with_reducible rfl)
    refine held_take 10 (v := ?_) rfl (by kernel_rfl) (by kernel_rfl) (by kernel_rfl) (fun _ _ _ h => h) (by rfl) ?_ (Grew.refl _).drew ?_
    rotate_left
    · (intro W hW; go_simp; with_reducible rfl)
    refine held_norm (a' := ?_) ?_ ?_
    rotate_left
    · (go_simp; with_reducible rfl)
    refine held_call 11 (by kernel_rfl) rfl (by rfl) (fun K hK => ?_)
    go_simp
    go_wp2_with (go_at_call 15; (with_reducible refine (live39_any _).grows.mono ?_); rintro e w6 ⟨rfl, hg6⟩; have G6 := Lib.hid ((Grew.refl w3).drew.trans hg6); clear hg6)
    refine hK.out _ _ G6.out ?_
    clear hK K
    refine held_take 12 (v := ?_) rfl (by kernel_rfl) (by kernel_rfl) (by kernel_rfl) (fun _ _ _ h => h) (by rfl) ?_ G6.out ?_
    rotate_left
    · (intro W hW; go_simp; with_reducible rfl)
    refine held_take 13 (v := ?_) rfl (by kernel_rfl) (by kernel_rfl) (by kernel_rfl) (fun _ _ _ h => h) (by rfl) ?_ G6.out ?_
    rotate_left
    · (intro W hW; go_simp; with_reducible rfl)
    refine held_norm (a' := ?_) ?_ ?_
    rotate_left
    · (go_simp; with_reducible rfl)
    refine held_done (by kernel_rfl) ?_
    go_wp2
    go_ret
    exact ⟨rfl, HW3.out.trans G6.out⟩
end Go.Proofs.Ytcokhgomibimcaa
