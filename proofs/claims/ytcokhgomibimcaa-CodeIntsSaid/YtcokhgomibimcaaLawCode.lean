/- Layer 39: the law of numbers as bytes. Condition: bytes and numbers that lie in memory that is there. -/
import Derived.Test.YtcokhgomibimcaaCode12
import Derived.Test.YtcokhgomibimcaaHeld
namespace Go.Proofs.Ytcokhgomibimcaa
open Go.RowKit
attribute [local go_sem] more_cell more_frozen more_more more_setCell more_of_drew more_of_drewN lt_more le_more past_cell past_cell2 past_frozen past_frozen2 past_setCell past_setCell2 mid_cell mid_frozen mid_setCell
attribute [local go_sem ↓] Go.wp_at_zero Go.wp_at_succ

theorem own_cap {w : World} {base : Nat} {e : TypeId} {size n c : Nat} {A : Option Addr} {xs : List Value} (h : w.ownsRow base e size (.slice A n c) n xs) : n ≤ c := by
  rcases h.2 with ⟨h1, h2⟩ | ⟨g, cap, cur, h1, _, _, h2, _⟩
  · omega
  · injection h1 with _ _ h3
    omega
theorem own_rowI {w : World} {base n c : Nat} {A : Option Addr} {l : List Int} (h : w.ownsRow base 3 1 (.slice A n c) n (iV l)) : Row w A (iV l) := by
  obtain ⟨A', c', h1, h2⟩ := own_row h
  injection h1 with h1 _ _
  subst h1
  exact h2
theorem vbs_le (l : List Int) : (vbs l).length ≤ 10 * (l.length + 1) := by
  have := vbT_len l l.length (Nat.le_refl _)
  rw [vbT_all] at this
  exact this
theorem bytes_app {a b : List Nat} (ha : bytesOk a) (hb : bytesOk b) : bytesOk (a ++ b) := fun x hx => (List.mem_append.1 hx).elim (ha x) (hb x)
theorem vbs_ok {l : List Int} (hl : l.length ≤ 1000000) (h : ∀ n ∈ l, small64 n) : bytesOk (vbs l) := by
  intro x hx
  unfold vbs at hx
  rcases List.mem_append.1 hx with hx | hx
  · exact vb_byte _ (zz_lt _ (by omega) (by omega)) x hx
  · simp only [List.mem_flatten, List.mem_map] at hx
    obtain ⟨_, ⟨n, hn, rfl⟩, hx⟩ := hx
    exact vb_byte _ (zz_lt _ (h n hn).1 (h n hn).2) x hx
set_option maxHeartbeats 4000000 in
set_option maxRecDepth 100000 in
theorem codeInts_walk (b : List Nat) (B : Option Addr) (cb : Nat) (p n : Int) (l : List Int) (L : Option Addr) (cl : Nat) (hcb : b.length ≤ cb) (hob : bytesOk b) (hn : small64 n) (hs : ∀ n ∈ l, small64 n) (hsz : b.length ≤ 1000000000000000 ∧ l.length ≤ 1000000000000000) (w : World) (rb : Row w B (bV b)) (rl : Row w L (iV l)) :
    Gives Try.prog 3 #[.slice B b.length cb, .int .i64 p, .int .i64 n, .slice L l.length cl] w (.bool true) := by
  unfold Gives
  have RB := Lib.hid rb
  have RL := Lib.hid rl
  obtain ⟨hsb, hsl⟩ := hsz
  by_cases hbig : 300 < b.length
  · clear rb rl hob hs
    go_enter Try.func3, Try.ntmps3
    go_wp2_with (first | (go_at_call 15; refine (live39_any _).mono ?_; rintro e w' ⟨rfl, x, rfl⟩))
    go_ret
    exact ⟨rfl, by (show Grew _ _; repeat (first | exact Grew.refl _ | refine Grew.alloc ?_ _ | refine Grew.drew ?_ | refine Grew.more ?_ _))⟩
  by_cases hbig2 : 100 < l.length
  · clear rb rl hob hs
    go_enter Try.func3, Try.ntmps3
    go_wp2_with (first | (go_at_call 15; refine (live39_any _).mono ?_; rintro e w' ⟨rfl, x, rfl⟩))
    go_ret
    exact ⟨rfl, by (show Grew _ _; repeat (first | exact Grew.refl _ | refine Grew.alloc ?_ _ | refine Grew.drew ?_ | refine Grew.more ?_ _))⟩
  have hzl := vb_len (zz n)
  have hvl := vbs_le l
  have hvo := vb_byte (zz n) (zz_lt n hn.1 hn.2)
  have hso := vbs_ok (by omega) hs
  have HPI : Hid (∀ W, Grew w W → Calls Try.prog 16 #[.slice B b.length cb, .int .i64 n] W (PutF W (b ++ vb (zz n)))) := Lib.hid fun W hW => putint_any b B cb n hn.1 hn.2 (by omega) W (rb.grew hW)
  have HPS : Hid (∀ W, Grew w W → Calls Try.prog 17 #[.slice B b.length cb, .slice L l.length cl] W (PutF W (b ++ vbs l))) := Lib.hid fun W hW => putints_any b B cb l L cl (by omega) (by omega) hs W (rb.grew hW) (rl.grew hW)
  have HRI : Hid (∀ W, Calls Try.prog 18 #[.int .i64 n] W (PutF W (vb (zz n)))) := Lib.hid fun W => rint_any n hn.1 hn.2 W
  have HRS : Hid (∀ W, Grew w W → Calls Try.prog 19 #[.slice L l.length cl] W (PutF W (vbs l))) := Lib.hid fun W hW => rints_any l L cl (by omega) hs W (rl.grew hW)
  have HGX : Hid (∀ W A c, (b ++ vb (zz n)).length ≤ c → Row W A (bV (b ++ vb (zz n))) → Calls Try.prog 20 #[.slice A (b ++ vb (zz n)).length c, .int .i64 b.length] W (GetIT W (n, ((b ++ vb (zz n)).length : Int), true))) := Lib.hid fun W A c hc hr => by
    have h := getint_any (b ++ vb (zz n)) A c b.length hc (by rw [List.length_append]; omega) (bytes_app hob hvo) W hr
    rw [getI_put b n hn] at h
    exact h
  have HGY : Hid (∀ W A c, (b ++ vbs l).length ≤ c → Row W A (bV (b ++ vbs l)) → Calls Try.prog 21 #[.slice A (b ++ vbs l).length c, .int .i64 b.length] W (GetIsT W (l, ((b ++ vbs l).length : Int), true))) := Lib.hid fun W A c hc hr => by
    have h := getints_any (b ++ vbs l) A c b.length hc (by rw [List.length_append]; omega) (bytes_app hob hso) W hr
    rw [getIs_put b l hs (by omega)] at h
    exact h
  have HG1 : Hid (∀ W, Grew w W → Calls Try.prog 20 #[.slice B b.length cb, .int .i64 p] W (GetIT W (getI b p))) := Lib.hid fun W hW => getint_any b B cb p hcb (by omega) hob W (rb.grew hW)
  have HG2 : Hid (∀ W, Grew w W → Calls Try.prog 23 #[.slice B b.length cb, .int .i64 p] W (GetIT W (getI b p))) := Lib.hid fun W hW => rgetint_any b B cb p hcb (by omega) hob W (rb.grew hW)
  have HG3 : Hid (∀ W, Grew w W → Calls Try.prog 21 #[.slice B b.length cb, .int .i64 p] W (GetIsT W (getIs b p))) := Lib.hid fun W hW => getints_any b B cb p hcb (by omega) hob W (rb.grew hW)
  have HG4 : Hid (∀ W, Grew w W → Calls Try.prog 24 #[.slice B b.length cb, .int .i64 p] W (GetIsT W (getIs b p))) := Lib.hid fun W hW => rgetints_any b B cb p hcb (by omega) hob W (rb.grew hW)
  have hls : (getIs b p).1.length ≤ 300 := by
    unfold getIs
    split
    · simp
    · have h1 := (intsS_left (leftS b p)).2
      have h2 := (leftS_left b p).1
      simp only
      omega
  have eX := strN_append b (vb (zz n))
  have eY := strN_append b (vbs l)
  have lX : (b ++ vb (zz n)).length ≤ 1000 := by rw [List.length_append]; omega
  have lY : (b ++ vbs l).length ≤ 2000 := by rw [List.length_append]; omega
  have SZ1 : Hid (¬ 9223372036854775807 < (strN b).size + (strN (vb (zz n))).size) := Lib.hid (by rw [strN_size, strN_size]; omega)
  have SZ2 : Hid (¬ 9223372036854775807 < (strN b).size + (strN (vbs l)).size) := Lib.hid (by rw [strN_size, strN_size]; omega)
  generalize getI b p = r1 at *
  generalize getIs b p = r2 at *
  obtain ⟨g1, g2, g3⟩ := r1
  obtain ⟨ls, k2, k3⟩ := r2
  generalize b ++ vb (zz n) = X at *
  generalize b ++ vbs l = Y at *
  generalize vb (zz n) = V at *
  generalize vbs l = VS at *
  have EX := Lib.hid eX
  have EY := Lib.hid eY
  clear eX eY hzl hvl hvo hso hob hs rb rl hn
  go_enter Try.func3, Try.ntmps3
  go_wp2_with fail
  refine (HPI.out _ (Grew.refl _)).mono ?_
  rintro e w1 ⟨A1, c1, rfl, ho1, hg1⟩
  have H1 := Lib.hid hg1
  have R1 := Lib.hid (put_row ho1)
  have C1 := own_cap ho1
  clear ho1 hg1
  go_wp2_with fail
  refine (HPS.out _ H1.out).mono ?_
  rintro e w2 ⟨A2, c2, rfl, ho2, hg2⟩
  have H2 := Lib.hid (H1.out.trans hg2)
  have R1 := Lib.hid (R1.out.grew hg2)
  have R2 := Lib.hid (put_row ho2)
  have C2 := own_cap ho2
  have RB2 := Lib.hid (RB.out.grew H2.out)
  clear ho2 hg2 H1
  go_upto_region 4 with fail
  have CVX : Hid (∀ W, Grew w2 W → (convert 22 9 (.slice A1 X.length c1)).run Try.prog W = .ok (.string (strN X)) W) := Lib.hid fun W hW => run_str X _ rfl A1 c1 W (R1.out.grew hW)
  have CVY : Hid (∀ W, Grew w2 W → (convert 22 9 (.slice A2 Y.length c2)).run Try.prog W = .ok (.string (strN Y)) W) := Lib.hid fun W hW => run_str Y _ rfl A2 c2 W (R2.out.grew hW)
  have CVB : Hid (∀ W, Grew w2 W → (convert 22 9 (.slice B b.length cb)).run Try.prog W = .ok (.string (strN b)) W) := Lib.hid fun W hW => run_str b _ rfl B cb W (RB2.out.grew hW)
  have en1 : ((strN X).toList == (strN b ++ strN V).toList) = true := by rw [EX.out]; exact beq_self_eq_true _
  have en2 : ((strN Y).toList == (strN b ++ strN VS).toList) = true := by rw [EY.out]; exact beq_self_eq_true _
  refine wp_region_grew (by kernel_rfl) ?_
  refine held_take 0 (v := ?_) rfl (by kernel_rfl) (by kernel_rfl) (by kernel_rfl) (fun _ _ _ h => h) (by rfl) ?_ (Grew.refl _).drew ?_
  rotate_left
  · (intro W hW; go_simp; with_reducible rfl)
  refine held_take 2 (v := ?_) rfl (by kernel_rfl) (by kernel_rfl) (by kernel_rfl) (fun _ _ _ h => h) (by rfl) ?_ (Grew.refl _).drew ?_
  rotate_left
  · (intro W hW; go_simp; with_reducible rfl)
  refine held_take 4 (v := ?_) rfl (by kernel_rfl) (by kernel_rfl) (by kernel_rfl) (fun _ _ _ h => h) (by rfl) ?_ (Grew.refl _).drew ?_
  rotate_left
  · (intro W hW; go_simp; with_reducible rfl)
  refine held_norm (a' := ?_) ?_ ?_
  rotate_left
  · (go_simp; with_reducible rfl)
  refine held_take 1 (v := ?_) rfl (by kernel_rfl) (by kernel_rfl) (by kernel_rfl) (fun _ _ _ h => h) (by rfl) ?_ (Grew.refl _).drew ?_
  rotate_left
  · (intro W hW; have q := CVX.out W hW; go_simp; with_reducible rfl)
  refine held_norm (a' := ?_) ?_ ?_
  rotate_left
  · (go_simp; with_reducible rfl)
  refine held_take 3 (v := ?_) rfl (by kernel_rfl) (by kernel_rfl) (by kernel_rfl) (fun _ _ _ h => h) (by rfl) ?_ (Grew.refl _).drew ?_
  rotate_left
  · (intro W hW; have q := CVB.out W hW; go_simp; with_reducible rfl)
  refine held_norm (a' := ?_) ?_ ?_
  rotate_left
  · (go_simp; with_reducible rfl)
  refine held_call 5 (by kernel_rfl) rfl (by rfl) (fun K hK => ?_)
  go_simp
  go_wp2_with (go_at_call 18; (with_reducible refine (HRI.out _).mono ?_); rintro e w3 ⟨A3, c3, rfl, ho3, hg3⟩; have G3 := Lib.hid ((Grew.refl w2).drew.trans hg3); have CV3 := run_str V _ rfl A3 c3 w3 (put_row ho3); clear ho3 hg3)
  refine hK.out _ _ G3.out ?_
  clear hK K
  refine held_call 6 (by kernel_rfl) rfl (by rfl) (fun K hK => ?_)
  go_simp
  go_wp2_with (fail)
  refine hK.out _ _ G3.out ?_
  clear hK K
  refine held_take 7 (v := ?_) rfl (by kernel_rfl) (by kernel_rfl) (by kernel_rfl) (fun _ _ _ h => h) (by rfl) ?_ G3.out ?_
  rotate_left
  · (intro W hW; have q := SZ1.out; go_simp; with_reducible rfl)
  refine held_norm (a' := ?_) ?_ ?_
  rotate_left
  · (go_simp; with_reducible rfl)
  refine held_take 8 (v := ?_) rfl (by kernel_rfl) (by kernel_rfl) (by kernel_rfl) (fun _ _ _ h => h) (by rfl) ?_ G3.out ?_
  rotate_left
  · (intro W hW; go_simp; with_reducible rfl)
  refine held_take 9 (v := ?_) rfl (by kernel_rfl) (by kernel_rfl) (by kernel_rfl) (fun _ _ _ h => h) (by rfl) ?_ G3.out ?_
  rotate_left
  · (intro W hW; go_simp; with_reducible rfl)
  refine held_norm (a' := ?_) ?_ ?_
  rotate_left
  · (go_simp; with_reducible rfl)
  clear CV3
  refine held_take 10 (v := ?_) rfl (by kernel_rfl) (by kernel_rfl) (by kernel_rfl) (fun _ _ _ h => h) (by rfl) ?_ G3.out ?_
  rotate_left
  · (intro W hW; go_simp; with_reducible rfl)
  refine held_take 12 (v := ?_) rfl (by kernel_rfl) (by kernel_rfl) (by kernel_rfl) (fun _ _ _ h => h) (by rfl) ?_ G3.out ?_
  rotate_left
  · (intro W hW; go_simp; with_reducible rfl)
  refine held_take 14 (v := ?_) rfl (by kernel_rfl) (by kernel_rfl) (by kernel_rfl) (fun _ _ _ h => h) (by rfl) ?_ G3.out ?_
  rotate_left
  · (intro W hW; go_simp; with_reducible rfl)
  refine held_norm (a' := ?_) ?_ ?_
  rotate_left
  · (go_simp; with_reducible rfl)
  refine held_take 11 (v := ?_) rfl (by kernel_rfl) (by kernel_rfl) (by kernel_rfl) (fun _ _ _ h => h) (by rfl) ?_ G3.out ?_
  rotate_left
  · (intro W hW; have q := CVY.out W hW; go_simp; with_reducible rfl)
  refine held_norm (a' := ?_) ?_ ?_
  rotate_left
  · (go_simp; with_reducible rfl)
  refine held_take 13 (v := ?_) rfl (by kernel_rfl) (by kernel_rfl) (by kernel_rfl) (fun _ _ _ h => h) (by rfl) ?_ G3.out ?_
  rotate_left
  · (intro W hW; have q := CVB.out W hW; go_simp; with_reducible rfl)
  refine held_norm (a' := ?_) ?_ ?_
  rotate_left
  · (go_simp; with_reducible rfl)
  refine held_call 15 (by kernel_rfl) rfl (by rfl) (fun K hK => ?_)
  go_simp
  go_wp2_with (go_at_call 19; (with_reducible refine (HRS.out _ (H2.out.trans G3.out)).mono ?_); rintro e w4 ⟨A4, c4, rfl, ho4, hg4⟩; have G4 := Lib.hid (G3.out.trans hg4); have CV4 := run_str VS _ rfl A4 c4 w4 (put_row ho4); clear ho4 hg4)
  refine hK.out _ _ G4.out ?_
  clear hK K
  refine held_call 16 (by kernel_rfl) rfl (by rfl) (fun K hK => ?_)
  go_simp
  go_wp2_with (fail)
  refine hK.out _ _ G4.out ?_
  clear hK K
  refine held_take 17 (v := ?_) rfl (by kernel_rfl) (by kernel_rfl) (by kernel_rfl) (fun _ _ _ h => h) (by rfl) ?_ G4.out ?_
  rotate_left
  · (intro W hW; have q := SZ2.out; go_simp; with_reducible rfl)
  refine held_norm (a' := ?_) ?_ ?_
  rotate_left
  · (go_simp; with_reducible rfl)
  refine held_take 18 (v := ?_) rfl (by kernel_rfl) (by kernel_rfl) (by kernel_rfl) (fun _ _ _ h => h) (by rfl) ?_ G4.out ?_
  rotate_left
  · (intro W hW; go_simp; with_reducible rfl)
  refine held_take 19 (v := ?_) rfl (by kernel_rfl) (by kernel_rfl) (by kernel_rfl) (fun _ _ _ h => h) (by rfl) ?_ G4.out ?_
  rotate_left
  · (intro W hW; go_simp; with_reducible rfl)
  refine held_norm (a' := ?_) ?_ ?_
  rotate_left
  · (go_simp; with_reducible rfl)
  refine held_done (by kernel_rfl) ?_
  clear CV4 en1 en2 EX EY SZ1 SZ2 CVX CVY CVB RB2 HRI HRS HPI HPS
  have H4 := Lib.hid (H2.out.trans G4.out)
  have R1 := Lib.hid (R1.out.grew G4.out)
  have R2 := Lib.hid (R2.out.grew G4.out)
  have RL4 := Lib.hid (RL.out.grew H4.out)
  clear G3 G4 H2
  go_wp2_with fail
  refine (HGX.out _ A1 c1 C1 R1.out).mono ?_
  rintro e w5 ⟨rfl, hg5⟩
  have H5 := Lib.hid (H4.out.trans hg5)
  have R2 := Lib.hid (R2.out.grew hg5)
  clear hg5
  go_wp2_with fail
  refine (HGY.out _ A2 c2 C2 R2.out).mono ?_
  rintro e w6 ⟨A6, c6, rfl, ho6, hg6⟩
  have H6 := Lib.hid (H5.out.trans hg6)
  have R6 : Hid (Row w6 A6 (iV l)) := Lib.hid (own_rowI ho6)
  clear ho6 hg6
  have RL6 := Lib.hid (RL.out.grew H6.out)
  have en1 : (n != n) = false := by simp
  have en2 : ((X.length : Int) != (X.length : Int)) = false := by simp
  have en3 : ((Y.length : Int) != (Y.length : Int)) = false := by simp
  have HSL : Hid (Gives Try.prog 22 #[.slice A6 l.length c6, .slice L l.length cl] w6 (.bool true)) := Lib.hid (by
    have h := samelist_any l l A6 L c6 cl w6 R6.out RL6.out (by omega) (by omega)
    rw [decide_eq_true (rfl : l = l)] at h
    exact h)
  go_wp2_with (go_at_call 22; (with_reducible refine HSL.out.grows.mono ?_); rintro e w7 ⟨rfl, hg7⟩; have H7 := Lib.hid (H6.out.trans hg7); clear hg7)
  refine (HG1.out _ H7.out).mono ?_
  rintro e w8 ⟨rfl, hg8⟩
  have H8 := Lib.hid (H7.out.trans hg8)
  clear hg8 en1 en2 en3 HSL HGX HGY
  go_wp2_with fail
  refine (HG2.out _ H8.out).mono ?_
  rintro e w9 ⟨rfl, hg9⟩
  have H9 := Lib.hid (H8.out.trans hg9)
  clear hg9
  go_wp2_with fail
  refine (HG3.out _ H9.out).mono ?_
  rintro e w10 ⟨A10, c10, rfl, ho10, hg10⟩
  have H10 := Lib.hid (H9.out.trans hg10)
  have R10 : Hid (Row w10 A10 (iV ls)) := Lib.hid (own_rowI ho10)
  clear hg10 ho10
  go_wp2_with fail
  refine (HG4.out _ H10.out).mono ?_
  rintro e w11 ⟨A11, c11, rfl, ho11, hg11⟩
  have H11 := Lib.hid (H10.out.trans hg11)
  have R10 := Lib.hid (R10.out.grew hg11)
  have R11 : Hid (Row w11 A11 (iV ls)) := Lib.hid (own_rowI ho11)
  clear hg11 ho11
  have HSL : Hid (Gives Try.prog 22 #[.slice A10 ls.length c10, .slice A11 ls.length c11] w11 (.bool true)) := Lib.hid (by
    have h := samelist_any ls ls A10 A11 c10 c11 w11 R10.out R11.out (by omega) (by omega)
    rw [decide_eq_true (rfl : ls = ls)] at h
    exact h)
  have en1 : (g1 == g1) = true := by simp
  have en2 : (g2 == g2) = true := by simp
  have en3 : (g3 == g3) = true := by simp
  have en4 : (k2 == k2) = true := by simp
  have en5 : (k3 == k3) = true := by simp
  go_wp2_with (first | (go_at_call 22; (with_reducible refine HSL.out.grows.mono ?_); rintro e w12 ⟨rfl, hg12⟩; have H12 := Lib.hid (H11.out.trans hg12); clear hg12) | (go_at_call 15; (with_reducible refine (live39_any _).grows.mono ?_); rintro e w13 ⟨rfl, hg13⟩; have H13 := Lib.hid (H12.out.trans hg13); clear hg13))
  go_ret
  exact ⟨rfl, H13.out⟩
end Go.Proofs.Ytcokhgomibimcaa
