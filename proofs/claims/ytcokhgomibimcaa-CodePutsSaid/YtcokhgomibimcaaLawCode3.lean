/- Layer 39: the law of ways to ask that are put. Condition: a way to ask that lies in memory that is there, numbers of 64 bits. -/
import Derived.Test.YtcokhgomibimcaaAskMath6
import Derived.Test.YtcokhgomibimcaaAsk10
import Derived.Test.YtcokhgomibimcaaLawCode2
namespace Go.Proofs.Ytcokhgomibimcaa
open Go.RowKit
attribute [local go_sem] more_cell more_frozen more_more more_setCell more_of_drew more_of_drewN lt_more le_more past_cell past_cell2 past_frozen past_frozen2 past_setCell past_setCell2 mid_cell mid_frozen mid_setCell
attribute [local go_sem ↓] Go.wp_at_zero Go.wp_at_succ

theorem own_cap {W : World} {base n c : Nat} {A : Option Addr} {xs : List Value} {e : TypeId} (h : W.ownsRow base e 1 (.slice A n c) n xs) : n ≤ c := by
  rcases h.2 with ⟨h1, h2⟩ | ⟨q, cap, cur, h1, h2, h3, h4, h5, h6, h7⟩
  · injection h1 with _ h1 h3
    omega
  · injection h1 with _ _ h1
    omega
theorem putF_open {w w' : World} {bs : List Nat} {e : Ending} (h : PutF w bs e w') : ∃ A c, e = .returned (.slice A bs.length c) ∧ Row w' A (bV bs) ∧ bs.length ≤ c ∧ Grew w w' := by
  obtain ⟨A, c, h1, h2, h3⟩ := h
  exact ⟨A, c, h1, put_row h2, own_cap h2, h3⟩
set_option maxHeartbeats 8000000 in
set_option maxRecDepth 100000 in
theorem codePuts_walk (a : AskS) (Q P : Option Addr) (jq kp : Nat) (hn : numsOk a) (w : World) (h1 : StatsR (PRow w) Q a.stats) (h2 : Row w P (iV a.picks)) :
    Gives Try.prog 4 #[askV a Q P jq kp] w (.bool true) := by
  unfold Gives
  have HM := Lib.hid (fun W (hW : Grew w W) => much39_any a Q P jq kp W (h1.grew hW))
  have HOk : Hid (goodA a → okA a) := Lib.hid fun h => okA_good a h hn
  have HS1 := Lib.hid h1
  have HP1 := Lib.hid h2
  have HSm : Hid (goodA a → smallA a) := Lib.hid (small_good a)
  clear h1 h2 hn
  obtain ⟨ga, hga⟩ : ∃ q : Prop, q = goodA a := ⟨_, rfl⟩
  rw [← hga] at HM HOk HSm
  clear hga
  have hC : Hid (ga → ∀ Q' P' j' k' W, Grew w W → StatsR (PRow W) Q' a.stats → Row W P' (iV a.picks) → Gives Try.prog 29 #[askV a Q' P' j' k', askV a Q P jq kp] W (.bool true)) := Lib.hid fun h0 Q' P' j' k' W hW q1 q2 =>
    sameask_same a Q' P' Q P j' k' jq kp (HSm.out h0) W q1 q2 (HS1.out.grew hW) (HP1.out.grew hW)
  obtain ⟨bs, hbs⟩ : ∃ bs, putA a = bs := ⟨_, rfl⟩
  have hP : Hid (ga → ∀ W, Grew w W → Calls Try.prog 26 #[askV a Q P jq kp] W (PutF W bs)) := Lib.hid fun h0 W hW => by
    have h := put_walk a Q P jq kp (HOk.out h0) W (HS1.out.grew hW) (HP1.out.grew hW)
    rw [hbs] at h
    exact h
  have hB : Hid (ga → ∀ W, Grew w W → Calls Try.prog 28 #[askV a Q P jq kp] W (PutF W bs)) := Lib.hid fun h0 W hW => by
    have h := bytes_walk a Q P jq kp (HOk.out h0) W (HS1.out.grew hW) (HP1.out.grew hW)
    rw [hbs] at h
    exact h
  have hG : Hid (ga → ∀ A c W, bs.length ≤ c → Row W A (bV bs) → Calls Try.prog 27 #[.slice A bs.length c] W (GetT W (a, 0))) := Lib.hid fun h0 A c W hc hr => by
    have hok := HOk.out h0
    have hx := putA_ok a hok
    have hlen := hok.2.2.2.2.2
    have hget := getA_put a hok
    rw [hbs] at hx hlen hget
    have h := get_any bs A c hc (by omega) hx W hr
    rw [hget] at h
    exact h
  clear hbs HOk HSm
  obtain ⟨ts, fo, o, pk⟩ := a
  obtain ⟨o0, o1, o2, o3, o4, o5⟩ := o
  simp only [askV] at *
  have b1 := Blok.new w 39 #[.slice Q ts.length jq, .bool fo, .int .i64 o0, .int .i64 o1, .int .i64 o2, .int .i64 o3, .int .i64 o4, .int .i64 o5, .slice P pk.length kp] _ rfl
  have HB1 := Lib.hid b1
  clear b1
  go_enter Try.func4, Try.ntmps4
  go_wp2_with fail
  refine (HM.out _ ((Grew.refl w).alloc _)).mono ?_
  rintro e w1 ⟨t, rfl, hg1, ht⟩
  have HT := Lib.hid ht
  have H1 : Hid (Grew w w1) := Lib.hid (((Grew.refl w).alloc _).trans hg1)
  have HB1 := Lib.hid (HB1.out.grew hg1)
  clear ht hg1 HM
  cases t
  rotate_left
  · go_wp2_with (first | (go_at_call 15; (with_reducible refine (live39_any _).grows.mono ?_); rintro e w6 ⟨rfl, hg6⟩; have G6 := Lib.hid hg6; clear hg6))
    go_ret
    exact ⟨rfl, H1.out.trans G6.out⟩
  have hgood : ga := HT.out rfl
  have hP := Lib.hid (hP.out hgood)
  have hB := Lib.hid (hB.out hgood)
  have hG := Lib.hid (hG.out hgood)
  have hC := Lib.hid (hC.out hgood)
  clear hgood HT
  have d0 := HB1.out.cell 0
  have d1 := HB1.out.cell 1
  have d2 := HB1.out.cell 2
  have d3 := HB1.out.cell 3
  have d4 := HB1.out.cell 4
  have d5 := HB1.out.cell 5
  have d6 := HB1.out.cell 6
  have d7 := HB1.out.cell 7
  have d8 := HB1.out.cell 8
  simp at d0 d1 d2 d3 d4 d5 d6 d7 d8
  have hlt := HB1.out.lt
  go_upto_region 4 with (go_at_call 26; (with_reducible refine (hP.out _ H1.out).mono ?_); rintro e w2 hp2; obtain ⟨A2, c2, rfl, hr2, hc2, hg2⟩ := putF_open hp2; have HR2 := Lib.hid hr2; have HC2 := Lib.hid hc2; have HG2 := Lib.hid hg2; clear hp2 hr2 hc2 hg2)
  have HB2 := Lib.hid (HB1.out.grew HG2.out)
  have H2 := Lib.hid (H1.out.trans HG2.out)
  clear d0 d1 d2 d3 d4 d5 d6 d7 d8 hlt HB1 hP
  go_wp2_with fail
  refine (hG.out _ _ _ HC2.out HR2.out).mono ?_
  rintro e w3 ⟨v3, rfl, ha3, hg3⟩
  obtain ⟨Q3, P3, j3, k3, rfl, hs3, hp3⟩ := askR_open ha3
  have S3 := Lib.hid hs3
  have R3 := Lib.hid hp3
  have HB3 := Lib.hid (HB2.out.grew hg3)
  have H3 := Lib.hid (H2.out.trans hg3)
  have RB3 := Lib.hid (HR2.out.grew hg3)
  clear ha3 hs3 hp3 hg3 HB2 HR2 HG2 hG
  simp only [askV]
  have b4 := Blok.new w3 39 #[.slice Q3 ts.length j3, .bool fo, .int .i64 o0, .int .i64 o1, .int .i64 o2, .int .i64 o3, .int .i64 o4, .int .i64 o5, .slice P3 pk.length k3] _ rfl
  have HB4 := Lib.hid b4
  clear b4
  go_upto_region 5 with fail
  have HB5 := Lib.hid (HB3.out.alloc (.cells #[.slice Q3 ts.length j3, .bool fo, .int .i64 o0, .int .i64 o1, .int .i64 o2, .int .i64 o3, .int .i64 o4, .int .i64 o5, .slice P3 pk.length k3] 39))
  have H5 := Lib.hid (H3.out.alloc (.cells #[.slice Q3 ts.length j3, .bool fo, .int .i64 o0, .int .i64 o1, .int .i64 o2, .int .i64 o3, .int .i64 o4, .int .i64 o5, .slice P3 pk.length k3] 39))
  have RB5 := Lib.hid (RB3.out.grew ((Grew.refl w3).alloc (.cells #[.slice Q3 ts.length j3, .bool fo, .int .i64 o0, .int .i64 o1, .int .i64 o2, .int .i64 o3, .int .i64 o4, .int .i64 o5, .slice P3 pk.length k3] 39)))
  have S5 := Lib.hid (S3.out.grew ((Grew.refl w3).alloc (.cells #[.slice Q3 ts.length j3, .bool fo, .int .i64 o0, .int .i64 o1, .int .i64 o2, .int .i64 o3, .int .i64 o4, .int .i64 o5, .slice P3 pk.length k3] 39)))
  have R5 := Lib.hid (R3.out.grew ((Grew.refl w3).alloc (.cells #[.slice Q3 ts.length j3, .bool fo, .int .i64 o0, .int .i64 o1, .int .i64 o2, .int .i64 o3, .int .i64 o4, .int .i64 o5, .slice P3 pk.length k3] 39)))
  clear HB3 H3 RB3 S3 R3
  generalize (w3.alloc (.cells #[.slice Q3 ts.length j3, .bool fo, .int .i64 o0, .int .i64 o1, .int .i64 o2, .int .i64 o3, .int .i64 o4, .int .i64 o5, .slice P3 pk.length k3] 39)) = u at *
  generalize w3.heap.size = b4 at *
  have hB5 : Hid (∀ W, Grew u W → Calls Try.prog 28 #[.agg #[.slice Q ts.length jq, .bool fo, .int .i64 o0, .int .i64 o1, .int .i64 o2, .int .i64 o3, .int .i64 o4, .int .i64 o5, .slice P pk.length kp]] W (PutF W bs)) := Lib.hid fun W hW => hB.out W (H5.out.trans hW)
  have hC5 : Hid (∀ W, Grew u W → Gives Try.prog 29 #[.agg #[.slice Q3 ts.length j3, .bool fo, .int .i64 o0, .int .i64 o1, .int .i64 o2, .int .i64 o3, .int .i64 o4, .int .i64 o5, .slice P3 pk.length k3], .agg #[.slice Q ts.length jq, .bool fo, .int .i64 o0, .int .i64 o1, .int .i64 o2, .int .i64 o3, .int .i64 o4, .int .i64 o5, .slice P pk.length kp]] W (.bool true)) := Lib.hid fun W hW => hC.out Q3 P3 j3 k3 W (H5.out.trans hW) (S5.out.grew hW) (R5.out.grew hW)
  have CVB : Hid (∀ W, Grew u W → (convert 22 9 (.slice A2 bs.length c2)).run Try.prog W = .ok (.string (strN bs)) W) := Lib.hid fun W hW => run_str bs _ rfl A2 c2 W (RB5.out.grew hW)
  have eb := strN_eqT (rfl : bs = bs)
  clear hB hC
  refine wp_region_grew (by kernel_rfl) ?_
  refine held_take 0 (v := ?_) rfl (by kernel_rfl) (by kernel_rfl) (by kernel_rfl) (fun _ _ _ h => h) (by rfl) ?_ (Grew.refl _).drew ?_
  rotate_left
  · (intro W hW; go_simp; with_reducible rfl)
  refine held_norm (a' := ?_) ?_ ?_
  rotate_left
  · (go_simp; with_reducible rfl)
  refine held_take 2 (v := ?_) rfl (by kernel_rfl) (by kernel_rfl) (by kernel_rfl) (fun _ _ _ h => h) (by rfl) ?_ (Grew.refl _).drew ?_
  rotate_left
  · (intro W hW; have qb := HB5.out.grew hW; have q0 := qb.cell 0; have q1 := qb.cell 1; have q2 := qb.cell 2; have q3 := qb.cell 3; have q4 := qb.cell 4; have q5 := qb.cell 5; have q6 := qb.cell 6; have q7 := qb.cell 7; have q8 := qb.cell 8; simp at q0 q1 q2 q3 q4 q5 q6 q7 q8; go_simp; with_reducible rfl)
  refine held_norm (a' := ?_) ?_ ?_
  rotate_left
  · (go_simp; with_reducible rfl)
  refine held_take 1 (v := ?_) rfl (by kernel_rfl) (by kernel_rfl) (by kernel_rfl) (fun _ _ _ h => h) (by rfl) ?_ (Grew.refl _).drew ?_
  rotate_left
  · (intro W hW; have q := CVB.out W hW; go_simp; with_reducible rfl)
  refine held_norm (a' := ?_) ?_ ?_
  rotate_left
  · (go_simp; with_reducible rfl)
  refine held_call 3 (by kernel_rfl) rfl (by rfl) (fun K hK => ?_)
  go_simp
  go_wp2_with (go_at_call 28; (with_reducible refine (hB5.out _ (Grew.refl _).drew).mono ?_); rintro e w5 hp5; obtain ⟨A5, c5, rfl, hr5, hc5, hg5⟩ := putF_open hp5; have G5 := Lib.hid ((Grew.refl u).drew.trans hg5); have CV5 := run_str bs _ rfl A5 c5 w5 hr5; clear hp5 hr5 hc5 hg5)
  refine hK.out _ _ G5.out ?_
  clear hK K
  refine held_call 4 (by kernel_rfl) rfl (by rfl) (fun K hK => ?_)
  go_simp
  go_wp2_with (fail)
  refine hK.out _ _ G5.out ?_
  clear hK K
  refine held_take 5 (v := ?_) rfl (by kernel_rfl) (by kernel_rfl) (by kernel_rfl) (fun _ _ _ h => h) (by rfl) ?_ G5.out ?_
  rotate_left
  · (intro W hW; go_simp; with_reducible rfl)
  refine held_take 6 (v := ?_) rfl (by kernel_rfl) (by kernel_rfl) (by kernel_rfl) (fun _ _ _ h => h) (by rfl) ?_ G5.out ?_
  rotate_left
  · (intro W hW; go_simp; with_reducible rfl)
  refine held_norm (a' := ?_) ?_ ?_
  rotate_left
  · (go_simp; with_reducible rfl)
  refine held_take 7 (v := ?_) rfl (by kernel_rfl) (by kernel_rfl) (by kernel_rfl) (fun _ _ _ h => h) (by rfl) ?_ G5.out ?_
  rotate_left
  · (intro W hW; have qb := HB4.out.grew hW; have q0 := qb.cell 0; have q1 := qb.cell 1; have q2 := qb.cell 2; have q3 := qb.cell 3; have q4 := qb.cell 4; have q5 := qb.cell 5; have q6 := qb.cell 6; have q7 := qb.cell 7; have q8 := qb.cell 8; simp at q0 q1 q2 q3 q4 q5 q6 q7 q8; go_simp; with_reducible rfl)
  refine held_norm (a' := ?_) ?_ ?_
  rotate_left
  · (go_simp; with_reducible rfl)
  refine held_take 8 (v := ?_) rfl (by kernel_rfl) (by kernel_rfl) (by kernel_rfl) (fun _ _ _ h => h) (by rfl) ?_ G5.out ?_
  rotate_left
  · (intro W hW; have qb := HB5.out.grew hW; have q0 := qb.cell 0; have q1 := qb.cell 1; have q2 := qb.cell 2; have q3 := qb.cell 3; have q4 := qb.cell 4; have q5 := qb.cell 5; have q6 := qb.cell 6; have q7 := qb.cell 7; have q8 := qb.cell 8; simp at q0 q1 q2 q3 q4 q5 q6 q7 q8; go_simp; with_reducible rfl)
  refine held_norm (a' := ?_) ?_ ?_
  rotate_left
  · (go_simp; with_reducible rfl)
  clear CV5
  refine held_call 9 (by kernel_rfl) rfl (by rfl) (fun K hK => ?_)
  go_simp
  go_wp2_with (go_at_call 29; (with_reducible refine (hC5.out _ G5.out).grows.mono ?_); rintro e w6 ⟨rfl, hg6⟩; have G6 := Lib.hid (G5.out.trans hg6); clear hg6)
  refine hK.out _ _ G6.out ?_
  clear hK K
  refine held_take 10 (v := ?_) rfl (by kernel_rfl) (by kernel_rfl) (by kernel_rfl) (fun _ _ _ h => h) (by rfl) ?_ G6.out ?_
  rotate_left
  · (intro W hW; go_simp; with_reducible rfl)
  refine held_take 11 (v := ?_) rfl (by kernel_rfl) (by kernel_rfl) (by kernel_rfl) (fun _ _ _ h => h) (by rfl) ?_ G6.out ?_
  rotate_left
  · (intro W hW; go_simp; with_reducible rfl)
  refine held_take 12 (v := ?_) rfl (by kernel_rfl) (by kernel_rfl) (by kernel_rfl) (fun _ _ _ h => h) (by rfl) ?_ G6.out ?_
  rotate_left
  · (intro W hW; go_simp; with_reducible rfl)
  refine held_norm (a' := ?_) ?_ ?_
  rotate_left
  · (go_simp; with_reducible rfl)
  refine held_call 13 (by kernel_rfl) rfl (by rfl) (fun K hK => ?_)
  go_simp
  go_wp2_with (go_at_call 30; refine (num_law _ _).mono ?_; rintro e w7 ⟨rfl, hw⟩; have hw := hw.symm; subst hw)
  refine hK.out _ _ G6.out ?_
  clear hK K
  refine held_take 14 (v := ?_) rfl (by kernel_rfl) (by kernel_rfl) (by kernel_rfl) (fun _ _ _ h => h) (by rfl) ?_ G6.out ?_
  rotate_left
  · (intro W hW; go_simp; with_reducible rfl)
  refine held_take 15 (v := ?_) rfl (by kernel_rfl) (by kernel_rfl) (by kernel_rfl) (fun _ _ _ h => h) (by rfl) ?_ G6.out ?_
  rotate_left
  · (intro W hW; go_simp; with_reducible rfl)
  refine held_take 16 (v := ?_) rfl (by kernel_rfl) (by kernel_rfl) (by kernel_rfl) (fun _ _ _ h => h) (by rfl) ?_ G6.out ?_
  rotate_left
  · (intro W hW; go_simp; with_reducible rfl)
  refine held_norm (a' := ?_) ?_ ?_
  rotate_left
  · (go_simp; with_reducible rfl)
  refine held_call 17 (by kernel_rfl) rfl (by rfl) (fun K hK => ?_)
  go_simp
  go_wp2_with (go_at_call 15; (with_reducible refine (live39_any _).grows.mono ?_); rintro e w8 ⟨rfl, hg8⟩; have G8 := Lib.hid (G6.out.trans hg8); clear hg8)
  refine hK.out _ _ G8.out ?_
  clear hK K
  refine held_take 18 (v := ?_) rfl (by kernel_rfl) (by kernel_rfl) (by kernel_rfl) (fun _ _ _ h => h) (by rfl) ?_ G8.out ?_
  rotate_left
  · (intro W hW; go_simp; with_reducible rfl)
  refine held_take 19 (v := ?_) rfl (by kernel_rfl) (by kernel_rfl) (by kernel_rfl) (fun _ _ _ h => h) (by rfl) ?_ G8.out ?_
  rotate_left
  · (intro W hW; go_simp; with_reducible rfl)
  refine held_norm (a' := ?_) ?_ ?_
  rotate_left
  · (go_simp; with_reducible rfl)
  refine held_done (by kernel_rfl) ?_
  go_wp2
  go_ret
  exact ⟨rfl, H5.out.trans G8.out⟩
end Go.Proofs.Ytcokhgomibimcaa
