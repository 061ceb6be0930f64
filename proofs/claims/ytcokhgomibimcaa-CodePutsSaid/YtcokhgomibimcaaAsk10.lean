/- Layer 39: a way to ask as bytes, the document's own. Condition: numbers of 64 bits, not more than 800000 bytes. -/
import Derived.Test.YtcokhgomibimcaaAskMath5
namespace Go.Proofs.Ytcokhgomibimcaa
open Go.RowKit
attribute [local go_sem] more_cell more_frozen more_more more_setCell more_of_drew more_of_drewN lt_more le_more past_cell past_cell2 past_frozen past_frozen2 past_setCell past_setCell2 mid_cell mid_frozen mid_setCell
attribute [local go_sem ↓] Go.wp_at_zero Go.wp_at_succ

theorem own_join {W : World} {base n m c : Nat} {A : Option Addr} {a b : List Nat} (h : W.ownsRow base 5 1 (.slice A (n + m) c) (n + m) (bV a ++ bV b)) : W.ownsRow base 5 1 (.slice A (n + m) c) (n + m) (bV (a ++ b)) := by
  rw [bV_append]
  exact h
theorem own_ne {x y : Option Nat} {n b : Nat} (h : x = y ∨ x = some n) (hy : ∀ k, y = some k → k ≠ b) (hn : b < n) : ∀ k, x = some k → k ≠ b := by
  intro k hk
  rcases h with h | h
  · exact hy k (h ▸ hk)
  · rw [h] at hk
    injection hk with hk
    omega
theorem iv_cell (l : List Int) (j : Nat) (h : j < l.length) : (iV l).toArray[j]? = some (.int .i64 l[j]) := by
  simp [iV, h]
def sixB (h : List Nat) (l : List Int) (j : Nat) : List Nat := h ++ vbl (l.take j)
theorem sixB_next (h : List Nat) (l : List Int) (j : Nat) (hj : j < l.length) : sixB h l (j + 1) = sixB h l j ++ vb (zz l[j]) := by
  unfold sixB
  rw [vbl_take l j hj, List.append_assoc]
theorem sixB_le (h : List Nat) (l : List Int) (j : Nat) (hj : j ≤ l.length) : (sixB h l j).length ≤ h.length + 10 * j := by
  induction j with
  | zero => simp [sixB, vbl]
  | succ j ih =>
    rw [sixB_next h l j (by omega), List.length_append]
    have := ih (by omega)
    have := vb_len (zz l[j])
    omega
/-- While bytes are put: the row, and a number for where we are. -/
def BytesN (u : World) (bs : Nat → List Nat) (n : Nat) (v i : Value) (wr : World) : Prop :=
  ∃ (j m : Nat) (A : Option Addr) (c : Nat), j ≤ n ∧ i = .int .i64 j ∧ m = (bs j).length ∧ v = .slice A m c ∧ wr.ownsRow u.heap.size 5 1 (.slice A m c) m (bV (bs j)) ∧ Grew u wr
/-- The same, beside a block that is kept. -/
def BytesK (u : World) (bs : Nat → List Nat) (n b : Nat) (t : TypeId) (cs : Array Value) (v i : Value) (wr : World) : Prop :=
  ∃ (j m : Nat) (A : Option Addr) (c : Nat), j ≤ n ∧ i = .int .i64 j ∧ m = (bs j).length ∧ v = .slice A m c ∧ wr.ownsRow u.heap.size 5 1 (.slice A m c) m (bV (bs j)) ∧ Grew u wr ∧ Blok wr b t cs ∧ ∀ k, (Value.slice A m c).ownBlock = some k → k ≠ b
set_option maxHeartbeats 4000000 in
set_option maxRecDepth 100000 in
theorem bytes_walk (a : AskS) (Q P : Option Addr) (jq kp : Nat) (hok : okA a) (w : World) (h1 : StatsR (PRow w) Q a.stats) (h2 : Row w P (iV a.picks)) :
    Calls Try.prog 28 #[askV a Q P jq kp] w (PutF w (putA a)) := by
  obtain ⟨k1, k2, k3, k4, k5, k6⟩ := hok
  have HQ := Lib.hid h1
  have HP := Lib.hid h2
  have K1 := Lib.hid k1
  have K4 := Lib.hid k4
  obtain ⟨all, hall⟩ : ∃ all, putA a = all := ⟨_, rfl⟩
  have HTl : Hid (∀ j, (statsB (head3 a) a.stats j).length ≤ 800000) := Lib.hid fun j => by
    have h := putTs_le a.stats j
    have e := congrArg List.length (putA_head a)
    rw [List.length_append] at e
    unfold statsB
    rw [List.length_append]
    omega
  have HAll : Hid (statsB (head3 a) a.stats a.stats.length = all) := Lib.hid (by
    unfold statsB
    rw [List.take_length, ← putA_head]
    exact hall)
  have hd3 := (head_len a).2.2
  rw [hall] at hd3 k6 ⊢
  have H3 : Hid (head3 a = (sixB (vb (zz (forceI a.force))) [a.o.o0, a.o.o1, a.o.o2, a.o.o3, a.o.o4, a.o.o5] 6 ++ vbs a.picks) ++ vb (zz a.stats.length)) := Lib.hid (by
    unfold head3 head2 head1 sevenI sixB vbl
    simp)
  have HSix : Hid (∀ x ∈ [a.o.o0, a.o.o1, a.o.o2, a.o.o3, a.o.o4, a.o.o5], small64 x) := Lib.hid (by
    intro x hx
    obtain ⟨o0, o1, o2, o3, o4, o5⟩ := k3
    simp only [List.mem_cons, List.not_mem_nil, or_false] at hx
    rcases hx with rfl | rfl | rfl | rfl | rfl | rfl
    all_goals assumption)
  have HI : Hid (∀ (x : Int), small64 x → ∀ W, Calls Try.prog 18 #[.int .i64 x] W (PutF W (vb (zz x)))) := Lib.hid fun x hx W => rint_any x hx.1 hx.2 W
  clear h1 h2 k1 k3 k4 hall
  unfold askV
  obtain ⟨ts, f, o, pk⟩ := a
  obtain ⟨o0, o1, o2, o3, o4, o5⟩ := o
  simp only at *
  generalize head3 ⟨ts, f, ⟨o0, o1, o2, o3, o4, o5⟩, pk⟩ = h3 at *
  have b1 := Blok.new w 39 #[.slice Q ts.length jq, .bool f, .int .i64 o0, .int .i64 o1, .int .i64 o2, .int .i64 o3, .int .i64 o4, .int .i64 o5, .slice P pk.length kp] _ rfl
  have hgu : Grew w (w.alloc (.cells #[.slice Q ts.length jq, .bool f, .int .i64 o0, .int .i64 o1, .int .i64 o2, .int .i64 o3, .int .i64 o4, .int .i64 o5, .slice P pk.length kp] 39)) := (Grew.refl w).alloc _
  have HB1 := Lib.hid b1
  have HGu := Lib.hid hgu
  clear b1 hgu
  go_enter Try.func28, Try.ntmps28
  go_wp2_with fail
  generalize (w.alloc (.cells #[.slice Q ts.length jq, .bool f, .int .i64 o0, .int .i64 o1, .int .i64 o2, .int .i64 o3, .int .i64 o4, .int .i64 o5, .slice P pk.length kp] 39)) = u at *
  refine (HI.out 0 ⟨by decide, by decide⟩ u).mono ?_
  rintro e wa ⟨Aa, ca, rfl, hoa, hga⟩
  have HOa := Lib.hid hoa
  have HGa := Lib.hid hga
  have d1 := (HB1.out.grew hga).cell 1
  have hlt := (HB1.out.grew hga).lt
  have d2 := (HB1.out.grew hga).cell 2
  have d3 := (HB1.out.grew hga).cell 3
  have d4 := (HB1.out.grew hga).cell 4
  have d5 := (HB1.out.grew hga).cell 5
  have d6 := (HB1.out.grew hga).cell 6
  have d7 := (HB1.out.grew hga).cell 7
  simp at d1 d2 d3 d4 d5 d6 d7
  clear hoa hga
  have hstart : ∀ (A0 : Option Addr) (c0 : Nat) (w0 : World), w0.ownsRow u.heap.size 5 1 (.slice A0 (vb (zz (forceI f))).length c0) (vb (zz (forceI f))).length (bV (vb (zz (forceI f)))) → Grew u w0 →
      BytesK u (sixB (vb (zz (forceI f))) [o0, o1, o2, o3, o4, o5]) 6 w0.heap.size 3 (iV [o0, o1, o2, o3, o4, o5]).toArray (.slice A0 (vb (zz (forceI f))).length c0) (.int .i64 0) (w0.alloc (.cells #[.int .i64 o0, .int .i64 o1, .int .i64 o2, .int .i64 o3, .int .i64 o4, .int .i64 o5] 3)) := fun A0 c0 w0 h1 h2 =>
    ⟨0, _, A0, c0, Nat.zero_le _, rfl, by simp [sixB, vbl], rfl, by simp only [sixB, vbl]; simpa using own_alloc h1 _, h2.alloc _, Blok.new _ _ _ _ rfl, fun k hk => Nat.ne_of_lt (own_lt h1 k hk)⟩
  have HStart := Lib.hid hstart
  clear hstart
  have hV0 := vb_len (zz (forceI f))
  have hcase : (f = false ∧ forceI f = 0) ∨ (f = true ∧ forceI f = 1) := by cases f <;> simp [forceI]
  generalize forceI f = fi at *
  rcases hcase with ⟨rfl, rfl⟩ | ⟨rfl, rfl⟩
  · go_upto_region 5 with fail
    have HA := Lib.hid (HStart.out _ _ _ HOa.out HGa.out)
    clear HOa HGa d1 hlt HStart
    go_wp2_with fail
    generalize vb (zz 0) = V0 at *
    generalize wa.heap.size = b6 at *
    go_loopw [3, 5] (fun v i wr => BytesK u (sixB V0 [o0, o1, o2, o3, o4, o5]) 6 b6 3 (iV [o0, o1, o2, o3, o4, o5]).toArray v i wr) (fun _ i _ => 6 - (intOf i).toNat)
    case atStart => exact HA.out
    case round =>
      clear HA
      obtain ⟨j, m, A, c, hj, rfl, hm, rfl, ho, hg, hbk, hne⟩ := hrel
      have HO := Lib.hid ho
      have HG := Lib.hid hg
      have HBk := Lib.hid hbk
      have HNe := Lib.hid hne
      have hml : m ≤ 200 := by
        rw [hm]
        have := sixB_le V0 [o0, o1, o2, o3, o4, o5] j (by simpa using hj)
        omega
      have HM := Lib.hid hm
      try clear ho
      try clear hg
      try clear hbk
      try clear hne
      try clear hm
      by_cases h : j < 6
      · have hjs : j < [o0, o1, o2, o3, o4, o5].length := by simpa using h
        have cx : wr.cell? ⟨b6, j, none⟩ = some (.int .i64 [o0, o1, o2, o3, o4, o5][j]) := by
          exact (HBk.out.cell j).trans (iv_cell _ j hjs)
        have hx := HSix.out _ (List.getElem_mem hjs)
        have HN := Lib.hid (sixB_next V0 [o0, o1, o2, o3, o4, o5] j hjs)
        have hlt6 := HBk.out.lt
        generalize [o0, o1, o2, o3, o4, o5][j] = x at *
        have hvx := vb_len (zz x)
        have HIx : Hid (∀ W, Calls Try.prog 18 #[.int .i64 x] W (PutF W (vb (zz x)))) := Lib.hid (HI.out x hx)
        generalize vb (zz x) = V at *
        generalize sixB V0 [o0, o1, o2, o3, o4, o5] j = cur at *
        go_wp2_with (first | (go_at_call 18; refine (HIx.out _).mono ?_; rintro e w1a ⟨A1a, c1a, rfl, ho1a, hg1a⟩; have HO1a := Lib.hid ho1a; have HG1a := Lib.hid hg1a; clear ho1a hg1a; have HK1 := Lib.hid (own_grew HO.out HG1a.out)) | (at_builtin; refine wpList_app rfl (.tmp 38) (.tmp 43) 22 5 rfl u (.int .u8 0) 1 Try.underlying22 infoB rfl (by decide) _ m (bV cur) rfl HK1.out A1a V.length c1a (bV V) rfl (by simp [bV]) (put_row HO1a.out) (bV_one V) (by omega) (HG.out.trans HG1a.out) ?_; intro A1 c1 w1 ho1 _ hg1 hgb1 hor1; have BK1 := Lib.hid ((HBk.out.grew HG1a.out).grown hgb1 (fun e => HNe.out _ e rfl)); have NE1 : Hid (∀ k, (Value.slice A1 (m + V.length) c1).ownBlock = some k → k ≠ b6) := Lib.hid (own_ne hor1 HNe.out (HBk.out.grew HG1a.out).lt); have HO1 := Lib.hid (own_join ho1); have HG1 := Lib.hid hg1; clear ho1 hg1 hgb1 hor1))
        exact ⟨⟨j + 1, m + V.length, A1, c1, by omega, by go_num, by rw [HN.out, List.length_append, HM.out], rfl, by rw [HN.out]; exact HO1.out, HG1.out, BK1.out, NE1.out⟩, by simp only [intOf]; omega⟩
      · have hj6 : j = 6 := by omega
        subst hj6
        have hl3 := congrArg List.length H3.out
        rw [List.length_append, List.length_append] at hl3
        have hl3' : m + (vbs pk).length + (vb (zz (ts.length : Int))).length ≤ 800000 := by
          rw [HM.out, ← hl3]
          omega
        have hs0 : statsB h3 ts 0 = h3 := by simp [statsB, putTs]
        have HS0 := Lib.hid (hs0.trans H3.out)
        have HIs : Hid (∀ W, Grew w W → Calls Try.prog 19 #[.slice P pk.length kp] W (PutF W (vbs pk))) := Lib.hid fun W hW => rints_any pk P kp k5 K4.out W (HP.out.grew hW)
        have HIl : Hid (∀ W, Calls Try.prog 18 #[.int .i64 ts.length] W (PutF W (vb (zz ts.length)))) := Lib.hid (HI.out _ ⟨by omega, by omega⟩)
        try clear hs0
        try clear hl3
        try clear H3
        try clear HSix
        try clear hd3
        generalize sixB V0 [o0, o1, o2, o3, o4, o5] 6 = S6 at *
        generalize vbs pk = VP at *
        generalize vb (zz (ts.length : Int)) = VL at *
        have d2 := (HB1.out.grew HG.out).cell 8
        have d0 := (HB1.out.grew HG.out).cell 0
        have hlt1 := (HB1.out.grew HG.out).lt
        simp at d0 d2
        go_wp2_with (first | (go_at_call 19; refine (HIs.out _ (HGu.out.trans HG.out)).mono ?_; rintro e w2a ⟨A2a, c2a, rfl, ho2a, hg2a⟩; have HO2a := Lib.hid ho2a; have HG2a := Lib.hid hg2a; clear ho2a hg2a; have HK2 := Lib.hid (own_grew HO.out HG2a.out)) | (at_builtin; refine wpList_app rfl (.tmp 45) (.tmp 48) 22 5 rfl u (.int .u8 0) 1 Try.underlying22 infoB rfl (by decide) _ m (bV S6) rfl HK2.out A2a VP.length c2a (bV VP) rfl (by simp [bV]) (put_row HO2a.out) (bV_one VP) (by omega) (HG.out.trans HG2a.out) ?_; intro A2 c2 w2 ho2 _ hg2 hgb2 hor2; have HO2 := Lib.hid (own_join ho2); have HG2 := Lib.hid hg2; clear ho2 hg2 hgb2 hor2; have e0 := (HB1.out.grew HG2.out).cell 0; have hlt2 := (HB1.out.grew HG2.out).lt; simp at e0))
        go_wp2_with (first | (go_at_call 18; refine (HIl.out _).mono ?_; rintro e w3a ⟨A3a, c3a, rfl, ho3a, hg3a⟩; have HO3a := Lib.hid ho3a; have HG3a := Lib.hid hg3a; clear ho3a hg3a; have HK3 := Lib.hid (own_grew HO2.out HG3a.out)) | (at_builtin; refine wpList_app rfl (.tmp 50) (.tmp 54) 22 5 rfl u (.int .u8 0) 1 Try.underlying22 infoB rfl (by decide) _ (m + VP.length) (bV (S6 ++ VP)) rfl HK3.out A3a VL.length c3a (bV VL) rfl (by simp [bV]) (put_row HO3a.out) (bV_one VL) (by omega) (HG2.out.trans HG3a.out) ?_; intro A3 c3 w3 ho3 _ hg3 hgb3 hor3; have HO3 := Lib.hid (own_join ho3); have HG3 := Lib.hid hg3; clear ho3 hg3 hgb3 hor3; have e0 := (HB1.out.grew HG3.out).cell 0; have hlt3 := (HB1.out.grew HG3.out).lt; simp at e0))
        try clear e0
        try clear d2
        try clear d0
        try clear hlt1
        try clear hlt2
        try clear hlt3
        try clear HO
        try clear HO2
        try clear HG
        try clear HG2
        try clear HK2
        try clear HO2a
        try clear HG2a
        try clear HK3
        try clear HO3a
        try clear HG3a
        try clear HBk
        try clear HNe
        try clear HIs
        try clear HIl
        go_loopw [3, 6] (fun v i wx => BytesN u (statsB h3 ts) ts.length v i wx) (fun _ i _ => ts.length - (intOf i).toNat)
        case atStart => exact ⟨0, _, A3, c3, Nat.zero_le _, rfl, by rw [HS0.out, List.length_append, List.length_append, HM.out], rfl, by rw [HS0.out]; exact HO3.out, HG3.out⟩
        case round =>
          try clear HO3
          try clear HG3
          try clear HS0
          try clear HM
          try clear hl3'
          try clear hml
          try clear hj
          try clear h
          obtain ⟨j, m, A, c, hj, rfl, hm, rfl, ho, hg⟩ := hrel
          have HO := Lib.hid ho
          have HG := Lib.hid hg
          have HM := Lib.hid hm
          have q0 := (HB1.out.grew hg).cell 0
          have hlt0 := (HB1.out.grew hg).lt
          simp at q0
          clear ho hg hm
          by_cases h : j < ts.length
          · obtain ⟨b, oo, B, kk, rfl, hb, hrr, s0, s1⟩ := statsR_at (HQ.out.grew HGu.out) h
            have s0' := (grew_cell HG.out (o := oo + j * 2) hb).trans s0
            have s1' := (grew_cell HG.out (o := oo + j * 2 + 1) hb).trans s1
            have hbw : b < wr.heap.size := Nat.lt_of_lt_of_le hb HG.out.size
            clear s0 s1
            have HRr := Lib.hid hrr
            have hokT := K1.out ts[j] (List.getElem_mem h)
            have HNx := Lib.hid (statsB_next h3 ts j h)
            have hl0' : (statsB h3 ts j).length ≤ 800000 := HTl.out j
            have hl1' : (statsB h3 ts (j + 1)).length ≤ 800000 := HTl.out (j + 1)
            clear hrr
            generalize ts[j] = x at *
            obtain ⟨rows, cols⟩ := x
            simp only at *
            obtain ⟨t1, t2, t3⟩ := hokT
            have t2' : cols.length ≤ 10000 := t2
            have t1' : small64 rows := t1
            have t3' : ∀ c ∈ cols, okC c := t3
            clear t1 t2 t3
            have HT3 := Lib.hid t3'
            have hv1 := vb_len (zz rows)
            have hv2 := vb_len (zz (cols.length : Int))
            have hle : ∀ k, (colsB ((statsB h3 ts j ++ vb (zz rows)) ++ vb (zz cols.length)) cols k).length ≤ 800000 := fun k => by
              have h1 := colsB_le ((statsB h3 ts j ++ vb (zz rows)) ++ vb (zz cols.length)) cols k
              rw [← HNx.out] at h1
              omega
            have HLe := Lib.hid hle
            clear hle t3'
            have HC0 := Lib.hid (show colsB ((statsB h3 ts j ++ vb (zz rows)) ++ vb (zz cols.length)) cols 0 = (statsB h3 ts j ++ vb (zz rows)) ++ vb (zz cols.length) by simp [colsB, putCs])
            have hmm : m ≤ 800000 := by rw [HM.out]; exact hl0'
            have N1 : Hid (∀ W, Calls Try.prog 18 #[.int .i64 rows] W (PutF W (vb (zz rows)))) := Lib.hid (HI.out _ t1')
            have N2 : Hid (∀ W, Calls Try.prog 18 #[.int .i64 cols.length] W (PutF W (vb (zz cols.length)))) := Lib.hid (HI.out _ ⟨by omega, by omega⟩)
            generalize vb (zz rows) = V1 at *
            generalize vb (zz (cols.length : Int)) = V2 at *
            generalize statsB h3 ts j = cur0 at *
            have HBKs := Lib.hid (Blok.new wr 97 #[.int .i64 rows, .slice B cols.length kk] _ rfl)
            have HOl : Hid (∀ k, (Value.slice A m c).ownBlock = some k → k ≠ wr.heap.size) := Lib.hid fun k hk => Nat.ne_of_lt (own_lt HO.out k hk)
            go_upto_region 16 with (first | (go_at_call 18; refine (N1.out _).mono ?_; rintro e w4a ⟨A4a, c4a, rfl, ho4a, hg4a⟩; have HO4a := Lib.hid ho4a; have HG4a := Lib.hid hg4a; clear ho4a hg4a; have HK4 := Lib.hid (own_grew (own_alloc HO.out _) HG4a.out)) | (at_builtin; refine wpList_app rfl (.tmp 68) (.tmp 71) 22 5 rfl u (.int .u8 0) 1 Try.underlying22 infoB rfl (by decide) _ m (bV cur0) rfl HK4.out A4a V1.length c4a (bV V1) rfl (by simp [bV]) (put_row HO4a.out) (bV_one V1) (by omega) ((HG.out.alloc _).trans HG4a.out) ?_; intro A4 c4 w4 ho4 _ hg4 hgb4 hor4; have BK4 := Lib.hid ((HBKs.out.grew HG4a.out).grown hgb4 (fun e => HOl.out _ e rfl)); have NE4 : Hid (∀ k, (Value.slice A4 (m + V1.length) c4).ownBlock = some k → k ≠ wr.heap.size) := Lib.hid (own_ne hor4 HOl.out (HBKs.out.grew HG4a.out).lt); have HO4 := Lib.hid (own_join ho4); have HG4 := Lib.hid hg4; clear ho4 hg4 hgb4 hor4; have f1 := BK4.out.cell 1; have fl := BK4.out.lt; simp at f1))
            go_wp2_with (first | (go_at_call 18; refine (N2.out _).mono ?_; rintro e w5a ⟨A5a, c5a, rfl, ho5a, hg5a⟩; have HO5a := Lib.hid ho5a; have HG5a := Lib.hid hg5a; clear ho5a hg5a; have HK5 := Lib.hid (own_grew HO4.out HG5a.out)) | (at_builtin; refine wpList_app rfl (.tmp 73) (.tmp 77) 22 5 rfl u (.int .u8 0) 1 Try.underlying22 infoB rfl (by decide) _ (m + V1.length) (bV (cur0 ++ V1)) rfl HK5.out A5a V2.length c5a (bV V2) rfl (by simp [bV]) (put_row HO5a.out) (bV_one V2) (by omega) (HG4.out.trans HG5a.out) ?_; intro A5 c5 w5 ho5 _ hg5 hgb5 hor5; have BK5 := Lib.hid ((BK4.out.grew HG5a.out).grown hgb5 (fun e => NE4.out _ e rfl)); have NE5 : Hid (∀ k, (Value.slice A5 ((m + V1.length) + V2.length) c5).ownBlock = some k → k ≠ wr.heap.size) := Lib.hid (own_ne hor5 NE4.out (BK4.out.grew HG5a.out).lt); have HO5 := Lib.hid (own_join ho5); have HG5 := Lib.hid hg5; clear ho5 hg5 hgb5 hor5; have f1 := BK5.out.cell 1; have fl := BK5.out.lt; simp at f1))
            have HMl : Hid (((m + V1.length) + V2.length) = ((cur0 ++ V1) ++ V2).length) := Lib.hid (by rw [List.length_append, List.length_append, HM.out])
            try clear HO
            try clear HG
            try clear HM
            try clear HBKs
            try clear HOl
            try clear hbw
            try clear s0'
            try clear s1'
            try clear f1
            try clear fl
            try clear q0
            try clear hlt0
            try clear HK4
            try clear HO4a
            try clear HG4a
            try clear HK5
            try clear HO5a
            try clear HG5a
            try clear HO4
            try clear HG4
            try clear BK4
            try clear NE4
            try clear N1
            try clear N2
            generalize wr.heap.size = bS at *
            generalize (m + V1.length) + V2.length = m5 at *
            generalize (cur0 ++ V1) ++ V2 = pre at *
            go_loopw [3, 8] (fun v i wx => BytesK u (colsB pre cols) cols.length bS 97 #[.int .i64 rows, .slice B cols.length kk] v i wx) (fun _ i _ => cols.length - (intOf i).toNat)
            case atStart => exact ⟨0, _, A5, c5, Nat.zero_le _, rfl, by rw [HC0.out, HMl.out], rfl, by rw [HC0.out]; exact HO5.out, HG5.out, BK5.out, NE5.out⟩
            case round =>
              try clear HO5
              try clear HG5
              try clear BK5
              try clear NE5
              try clear HC0
              try clear HMl
              obtain ⟨k, m3, A9, c9, hk, rfl, hm3, rfl, ho9, hg9, hb9, hn9⟩ := hrel
              have HO9 := Lib.hid ho9
              have HG9 := Lib.hid hg9
              have BK9 := Lib.hid hb9
              have NE9 := Lib.hid hn9
              have HM9 := Lib.hid hm3
              have q1 := hb9.cell 1
              have ql := hb9.lt
              simp at q1
              try clear ho9
              try clear hg9
              try clear hb9
              try clear hn9
              try clear hm3
              by_cases hlt : k < cols.length
              · obtain ⟨cb, co, M, mk, rfl, hcb, hrm, t0, t1, t2⟩ := colsR_at HRr.out hlt
                have hc0 : ∀ W, Grew u W → W.cell? ⟨cb, co + k * 3, none⟩ = some (.int .i64 cols[k].u) ∧ W.cell? ⟨cb, co + k * 3 + 1, none⟩ = some (.int .i64 cols[k].n) ∧ W.cell? ⟨cb, co + k * 3 + 2, none⟩ = some (.slice M cols[k].m.length mk) ∧ cb < W.heap.size := fun W hW =>
                  ⟨(grew_cell hW (o := co + k * 3) hcb).trans t0, (grew_cell hW (o := co + k * 3 + 1) hcb).trans t1, (grew_cell hW (o := co + k * 3 + 2) hcb).trans t2, Nat.lt_of_lt_of_le hcb hW.size⟩
                have HCs := Lib.hid hc0
                have HRM := Lib.hid hrm
                have hokC := HT3.out cols[k] (List.getElem_mem hlt)
                have HNk := Lib.hid (colsB_next pre cols k hlt)
                have l0 := HLe.out k
                have l1 := HLe.out (k + 1)
                rw [HNk.out, List.length_append, List.length_append, List.length_append] at l1
                try clear t0
                try clear t1
                try clear t2
                try clear hcb
                try clear hrm
                try clear hc0
                generalize cols[k] = x at *
                obtain ⟨xu, xn, xm⟩ := x
                obtain ⟨y1, y2, y3, y4⟩ := hokC
                simp only at *
                have y1' : small64 xu := y1
                have y2' : small64 xn := y2
                have y3' : ∀ x ∈ xm, small64 x := y3
                have y4' : xm.length ≤ 10000 := y4
                try clear y1
                try clear y2
                try clear y3
                try clear y4
                have N1 : Hid (∀ W, Calls Try.prog 18 #[.int .i64 xu] W (PutF W (vb (zz xu)))) := Lib.hid (HI.out _ y1')
                have N2 : Hid (∀ W, Calls Try.prog 18 #[.int .i64 xn] W (PutF W (vb (zz xn)))) := Lib.hid (HI.out _ y2')
                have N3 : Hid (∀ W, Grew u W → Calls Try.prog 19 #[.slice M xm.length mk] W (PutF W (vbs xm))) := Lib.hid fun W hW => rints_any xm M mk y4' y3' W (HRM.out.grew hW)
                obtain ⟨p0, p1, p2, pl⟩ := HCs.out wr HG9.out
                try clear y1'
                try clear y2'
                try clear y3'
                try clear y4'
                generalize vb (zz xu) = V1 at *
                generalize vb (zz xn) = V2 at *
                generalize vbs xm = V3 at *
                generalize colsB pre cols k = cur at *
                have hm9 : m3 + V1.length + V2.length + V3.length ≤ 800000 := by rw [HM9.out]; omega
                clear l0 l1
                go_upto_region 21 with (first | (go_at_call 18; refine (N1.out _).mono ?_; rintro e w6a ⟨A6a, c6a, rfl, ho6a, hg6a⟩; have HO6a := Lib.hid ho6a; have HG6a := Lib.hid hg6a; clear ho6a hg6a; have HK6 := Lib.hid (own_grew HO9.out HG6a.out)) | (at_builtin; refine wpList_app rfl (.tmp 86) (.tmp 93) 22 5 rfl u (.int .u8 0) 1 Try.underlying22 infoB rfl (by decide) _ m3 (bV cur) rfl HK6.out A6a V1.length c6a (bV V1) rfl (by simp [bV]) (put_row HO6a.out) (bV_one V1) (by omega) (HG9.out.trans HG6a.out) ?_; intro A6 c6 w6 ho6 _ hg6 hgb6 hor6; have BK6 := Lib.hid ((BK9.out.grew HG6a.out).grown hgb6 (fun e => NE9.out _ e rfl)); have NE6 : Hid (∀ k, (Value.slice A6 (m3 + V1.length) c6).ownBlock = some k → k ≠ bS) := Lib.hid (own_ne hor6 NE9.out (BK9.out.grew HG6a.out).lt); have HO6 := Lib.hid (own_join ho6); have HG6 := Lib.hid hg6; clear ho6 hg6 hgb6 hor6; have f1 := BK6.out.cell 1; have fl := BK6.out.lt; simp at f1))
                try clear HK6
                try clear HO6a
                try clear HG6a
                try clear p0
                try clear p1
                try clear p2
                try clear pl
                try clear q1
                try clear ql
                try clear N1
                obtain ⟨p0, p1, p2, pl⟩ := HCs.out w6 HG6.out
                go_upto_region 22 with (first | (go_at_call 18; refine (N2.out _).mono ?_; rintro e w7a ⟨A7a, c7a, rfl, ho7a, hg7a⟩; have HO7a := Lib.hid ho7a; have HG7a := Lib.hid hg7a; clear ho7a hg7a; have HK7 := Lib.hid (own_grew HO6.out HG7a.out)) | (at_builtin; refine wpList_app rfl (.tmp 95) (.tmp 102) 22 5 rfl u (.int .u8 0) 1 Try.underlying22 infoB rfl (by decide) _ (m3 + V1.length) (bV (cur ++ V1)) rfl HK7.out A7a V2.length c7a (bV V2) rfl (by simp [bV]) (put_row HO7a.out) (bV_one V2) (by omega) (HG6.out.trans HG7a.out) ?_; intro A7 c7 w7 ho7 _ hg7 hgb7 hor7; have BK7 := Lib.hid ((BK6.out.grew HG7a.out).grown hgb7 (fun e => NE6.out _ e rfl)); have NE7 : Hid (∀ k, (Value.slice A7 ((m3 + V1.length) + V2.length) c7).ownBlock = some k → k ≠ bS) := Lib.hid (own_ne hor7 NE6.out (BK6.out.grew HG7a.out).lt); have HO7 := Lib.hid (own_join ho7); have HG7 := Lib.hid hg7; clear ho7 hg7 hgb7 hor7; have f1 := BK7.out.cell 1; have fl := BK7.out.lt; simp at f1))
                try clear HK7
                try clear HO7a
                try clear HG7a
                try clear p0
                try clear p1
                try clear p2
                try clear pl
                try clear N2
                try clear HO6
                try clear HG6
                try clear BK6
                try clear NE6
                obtain ⟨p0, p1, p2, pl⟩ := HCs.out w7 HG7.out
                go_wp2_with (first | (go_at_call 19; refine (N3.out _ HG7.out).mono ?_; rintro e w8a ⟨A8a, c8a, rfl, ho8a, hg8a⟩; have HO8a := Lib.hid ho8a; have HG8a := Lib.hid hg8a; clear ho8a hg8a; have HK8 := Lib.hid (own_grew HO7.out HG8a.out)) | (at_builtin; refine wpList_app rfl (.tmp 104) (.tmp 111) 22 5 rfl u (.int .u8 0) 1 Try.underlying22 infoB rfl (by decide) _ (m3 + V1.length + V2.length) (bV ((cur ++ V1) ++ V2)) rfl HK8.out A8a V3.length c8a (bV V3) rfl (by simp [bV]) (put_row HO8a.out) (bV_one V3) (by omega) (HG7.out.trans HG8a.out) ?_; intro A8 c8 w8 ho8 _ hg8 hgb8 hor8; have BK8 := Lib.hid ((BK7.out.grew HG8a.out).grown hgb8 (fun e => NE7.out _ e rfl)); have NE8 : Hid (∀ k, (Value.slice A8 ((m3 + V1.length + V2.length) + V3.length) c8).ownBlock = some k → k ≠ bS) := Lib.hid (own_ne hor8 NE7.out (BK7.out.grew HG8a.out).lt); have HO8 := Lib.hid (own_join ho8); have HG8 := Lib.hid hg8; clear ho8 hg8 hgb8 hor8))
                exact ⟨⟨k + 1, m3 + V1.length + V2.length + V3.length, A8, c8, by omega, by go_num, by rw [HNk.out, List.length_append, List.length_append, List.length_append, HM9.out], rfl, by rw [HNk.out]; exact HO8.out, HG8.out, BK8.out, NE8.out⟩, by simp only [intOf]; omega⟩
              · obtain rfl : k = cols.length := by omega
                go_wp2
                exact ⟨⟨j + 1, m3, A9, c9, by omega, by go_num, by rw [HNx.out]; exact HM9.out, rfl, by rw [HNx.out]; exact HO9.out, HG9.out⟩, by simp only [intOf]; omega⟩
          · obtain rfl : j = ts.length := by omega
            have eF := HAll.out
            have eM := HM.out
            rw [eF] at eM
            have HF : PutF w all (.returned (.slice A m c)) wr := by
              subst eM
              have ho := HO.out
              rw [eF] at ho
              exact ⟨A, c, rfl, own_le ho HGu.out.size, HGu.out.trans HG.out⟩
            have HFh := Lib.hid HF
            clear eF HF eM
            go_wp2
            go_ret
            exact HFh.out
  · go_upto_region 5 with (go_at_call 18; refine (HI.out 1 ⟨by decide, by decide⟩ _).mono ?_; rintro e wb ⟨Ab, cb, rfl, hob, hgb⟩; have HOb := Lib.hid hob; have HGb := Lib.hid hgb; have dd := (HB1.out.grew (HGa.out.trans hgb)); have d2 := dd.cell 2; have d3 := dd.cell 3; have d4 := dd.cell 4; have d5 := dd.cell 5; have d6 := dd.cell 6; have d7 := dd.cell 7; have hlt2 := dd.lt; simp at d2 d3 d4 d5 d6 d7; clear hob hgb dd)
    have HA := Lib.hid (HStart.out _ _ _ (own_le HOb.out HGa.out.size) (HGa.out.trans HGb.out))
    clear HOa HOb d1 hlt HStart
    go_wp2_with fail
    generalize vb (zz 1) = V0 at *
    generalize wb.heap.size = b6 at *
    go_loopw [3, 5] (fun v i wr => BytesK u (sixB V0 [o0, o1, o2, o3, o4, o5]) 6 b6 3 (iV [o0, o1, o2, o3, o4, o5]).toArray v i wr) (fun _ i _ => 6 - (intOf i).toNat)
    case atStart => exact HA.out
    case round =>
      clear HA
      obtain ⟨j, m, A, c, hj, rfl, hm, rfl, ho, hg, hbk, hne⟩ := hrel
      have HO := Lib.hid ho
      have HG := Lib.hid hg
      have HBk := Lib.hid hbk
      have HNe := Lib.hid hne
      have hml : m ≤ 200 := by
        rw [hm]
        have := sixB_le V0 [o0, o1, o2, o3, o4, o5] j (by simpa using hj)
        omega
      have HM := Lib.hid hm
      try clear ho
      try clear hg
      try clear hbk
      try clear hne
      try clear hm
      by_cases h : j < 6
      · have hjs : j < [o0, o1, o2, o3, o4, o5].length := by simpa using h
        have cx : wr.cell? ⟨b6, j, none⟩ = some (.int .i64 [o0, o1, o2, o3, o4, o5][j]) := by
          exact (HBk.out.cell j).trans (iv_cell _ j hjs)
        have hx := HSix.out _ (List.getElem_mem hjs)
        have HN := Lib.hid (sixB_next V0 [o0, o1, o2, o3, o4, o5] j hjs)
        have hlt6 := HBk.out.lt
        generalize [o0, o1, o2, o3, o4, o5][j] = x at *
        have hvx := vb_len (zz x)
        have HIx : Hid (∀ W, Calls Try.prog 18 #[.int .i64 x] W (PutF W (vb (zz x)))) := Lib.hid (HI.out x hx)
        generalize vb (zz x) = V at *
        generalize sixB V0 [o0, o1, o2, o3, o4, o5] j = cur at *
        go_wp2_with (first | (go_at_call 18; refine (HIx.out _).mono ?_; rintro e w1a ⟨A1a, c1a, rfl, ho1a, hg1a⟩; have HO1a := Lib.hid ho1a; have HG1a := Lib.hid hg1a; clear ho1a hg1a; have HK1 := Lib.hid (own_grew HO.out HG1a.out)) | (at_builtin; refine wpList_app rfl (.tmp 38) (.tmp 43) 22 5 rfl u (.int .u8 0) 1 Try.underlying22 infoB rfl (by decide) _ m (bV cur) rfl HK1.out A1a V.length c1a (bV V) rfl (by simp [bV]) (put_row HO1a.out) (bV_one V) (by omega) (HG.out.trans HG1a.out) ?_; intro A1 c1 w1 ho1 _ hg1 hgb1 hor1; have BK1 := Lib.hid ((HBk.out.grew HG1a.out).grown hgb1 (fun e => HNe.out _ e rfl)); have NE1 : Hid (∀ k, (Value.slice A1 (m + V.length) c1).ownBlock = some k → k ≠ b6) := Lib.hid (own_ne hor1 HNe.out (HBk.out.grew HG1a.out).lt); have HO1 := Lib.hid (own_join ho1); have HG1 := Lib.hid hg1; clear ho1 hg1 hgb1 hor1))
        exact ⟨⟨j + 1, m + V.length, A1, c1, by omega, by go_num, by rw [HN.out, List.length_append, HM.out], rfl, by rw [HN.out]; exact HO1.out, HG1.out, BK1.out, NE1.out⟩, by simp only [intOf]; omega⟩
      · have hj6 : j = 6 := by omega
        subst hj6
        have hl3 := congrArg List.length H3.out
        rw [List.length_append, List.length_append] at hl3
        have hl3' : m + (vbs pk).length + (vb (zz (ts.length : Int))).length ≤ 800000 := by
          rw [HM.out, ← hl3]
          omega
        have hs0 : statsB h3 ts 0 = h3 := by simp [statsB, putTs]
        have HS0 := Lib.hid (hs0.trans H3.out)
        have HIs : Hid (∀ W, Grew w W → Calls Try.prog 19 #[.slice P pk.length kp] W (PutF W (vbs pk))) := Lib.hid fun W hW => rints_any pk P kp k5 K4.out W (HP.out.grew hW)
        have HIl : Hid (∀ W, Calls Try.prog 18 #[.int .i64 ts.length] W (PutF W (vb (zz ts.length)))) := Lib.hid (HI.out _ ⟨by omega, by omega⟩)
        try clear hs0
        try clear hl3
        try clear H3
        try clear HSix
        try clear hd3
        generalize sixB V0 [o0, o1, o2, o3, o4, o5] 6 = S6 at *
        generalize vbs pk = VP at *
        generalize vb (zz (ts.length : Int)) = VL at *
        have d2 := (HB1.out.grew HG.out).cell 8
        have d0 := (HB1.out.grew HG.out).cell 0
        have hlt1 := (HB1.out.grew HG.out).lt
        simp at d0 d2
        go_wp2_with (first | (go_at_call 19; refine (HIs.out _ (HGu.out.trans HG.out)).mono ?_; rintro e w2a ⟨A2a, c2a, rfl, ho2a, hg2a⟩; have HO2a := Lib.hid ho2a; have HG2a := Lib.hid hg2a; clear ho2a hg2a; have HK2 := Lib.hid (own_grew HO.out HG2a.out)) | (at_builtin; refine wpList_app rfl (.tmp 45) (.tmp 48) 22 5 rfl u (.int .u8 0) 1 Try.underlying22 infoB rfl (by decide) _ m (bV S6) rfl HK2.out A2a VP.length c2a (bV VP) rfl (by simp [bV]) (put_row HO2a.out) (bV_one VP) (by omega) (HG.out.trans HG2a.out) ?_; intro A2 c2 w2 ho2 _ hg2 hgb2 hor2; have HO2 := Lib.hid (own_join ho2); have HG2 := Lib.hid hg2; clear ho2 hg2 hgb2 hor2; have e0 := (HB1.out.grew HG2.out).cell 0; have hlt2 := (HB1.out.grew HG2.out).lt; simp at e0))
        go_wp2_with (first | (go_at_call 18; refine (HIl.out _).mono ?_; rintro e w3a ⟨A3a, c3a, rfl, ho3a, hg3a⟩; have HO3a := Lib.hid ho3a; have HG3a := Lib.hid hg3a; clear ho3a hg3a; have HK3 := Lib.hid (own_grew HO2.out HG3a.out)) | (at_builtin; refine wpList_app rfl (.tmp 50) (.tmp 54) 22 5 rfl u (.int .u8 0) 1 Try.underlying22 infoB rfl (by decide) _ (m + VP.length) (bV (S6 ++ VP)) rfl HK3.out A3a VL.length c3a (bV VL) rfl (by simp [bV]) (put_row HO3a.out) (bV_one VL) (by omega) (HG2.out.trans HG3a.out) ?_; intro A3 c3 w3 ho3 _ hg3 hgb3 hor3; have HO3 := Lib.hid (own_join ho3); have HG3 := Lib.hid hg3; clear ho3 hg3 hgb3 hor3; have e0 := (HB1.out.grew HG3.out).cell 0; have hlt3 := (HB1.out.grew HG3.out).lt; simp at e0))
        try clear e0
        try clear d2
        try clear d0
        try clear hlt1
        try clear hlt2
        try clear hlt3
        try clear HO
        try clear HO2
        try clear HG
        try clear HG2
        try clear HK2
        try clear HO2a
        try clear HG2a
        try clear HK3
        try clear HO3a
        try clear HG3a
        try clear HBk
        try clear HNe
        try clear HIs
        try clear HIl
        go_loopw [3, 6] (fun v i wx => BytesN u (statsB h3 ts) ts.length v i wx) (fun _ i _ => ts.length - (intOf i).toNat)
        case atStart => exact ⟨0, _, A3, c3, Nat.zero_le _, rfl, by rw [HS0.out, List.length_append, List.length_append, HM.out], rfl, by rw [HS0.out]; exact HO3.out, HG3.out⟩
        case round =>
          try clear HO3
          try clear HG3
          try clear HS0
          try clear HM
          try clear hl3'
          try clear hml
          try clear hj
          try clear h
          obtain ⟨j, m, A, c, hj, rfl, hm, rfl, ho, hg⟩ := hrel
          have HO := Lib.hid ho
          have HG := Lib.hid hg
          have HM := Lib.hid hm
          have q0 := (HB1.out.grew hg).cell 0
          have hlt0 := (HB1.out.grew hg).lt
          simp at q0
          clear ho hg hm
          by_cases h : j < ts.length
          · obtain ⟨b, oo, B, kk, rfl, hb, hrr, s0, s1⟩ := statsR_at (HQ.out.grew HGu.out) h
            have s0' := (grew_cell HG.out (o := oo + j * 2) hb).trans s0
            have s1' := (grew_cell HG.out (o := oo + j * 2 + 1) hb).trans s1
            have hbw : b < wr.heap.size := Nat.lt_of_lt_of_le hb HG.out.size
            clear s0 s1
            have HRr := Lib.hid hrr
            have hokT := K1.out ts[j] (List.getElem_mem h)
            have HNx := Lib.hid (statsB_next h3 ts j h)
            have hl0' : (statsB h3 ts j).length ≤ 800000 := HTl.out j
            have hl1' : (statsB h3 ts (j + 1)).length ≤ 800000 := HTl.out (j + 1)
            clear hrr
            generalize ts[j] = x at *
            obtain ⟨rows, cols⟩ := x
            simp only at *
            obtain ⟨t1, t2, t3⟩ := hokT
            have t2' : cols.length ≤ 10000 := t2
            have t1' : small64 rows := t1
            have t3' : ∀ c ∈ cols, okC c := t3
            clear t1 t2 t3
            have HT3 := Lib.hid t3'
            have hv1 := vb_len (zz rows)
            have hv2 := vb_len (zz (cols.length : Int))
            have hle : ∀ k, (colsB ((statsB h3 ts j ++ vb (zz rows)) ++ vb (zz cols.length)) cols k).length ≤ 800000 := fun k => by
              have h1 := colsB_le ((statsB h3 ts j ++ vb (zz rows)) ++ vb (zz cols.length)) cols k
              rw [← HNx.out] at h1
              omega
            have HLe := Lib.hid hle
            clear hle t3'
            have HC0 := Lib.hid (show colsB ((statsB h3 ts j ++ vb (zz rows)) ++ vb (zz cols.length)) cols 0 = (statsB h3 ts j ++ vb (zz rows)) ++ vb (zz cols.length) by simp [colsB, putCs])
            have hmm : m ≤ 800000 := by rw [HM.out]; exact hl0'
            have N1 : Hid (∀ W, Calls Try.prog 18 #[.int .i64 rows] W (PutF W (vb (zz rows)))) := Lib.hid (HI.out _ t1')
            have N2 : Hid (∀ W, Calls Try.prog 18 #[.int .i64 cols.length] W (PutF W (vb (zz cols.length)))) := Lib.hid (HI.out _ ⟨by omega, by omega⟩)
            generalize vb (zz rows) = V1 at *
            generalize vb (zz (cols.length : Int)) = V2 at *
            generalize statsB h3 ts j = cur0 at *
            have HBKs := Lib.hid (Blok.new wr 97 #[.int .i64 rows, .slice B cols.length kk] _ rfl)
            have HOl : Hid (∀ k, (Value.slice A m c).ownBlock = some k → k ≠ wr.heap.size) := Lib.hid fun k hk => Nat.ne_of_lt (own_lt HO.out k hk)
            go_upto_region 16 with (first | (go_at_call 18; refine (N1.out _).mono ?_; rintro e w4a ⟨A4a, c4a, rfl, ho4a, hg4a⟩; have HO4a := Lib.hid ho4a; have HG4a := Lib.hid hg4a; clear ho4a hg4a; have HK4 := Lib.hid (own_grew (own_alloc HO.out _) HG4a.out)) | (at_builtin; refine wpList_app rfl (.tmp 68) (.tmp 71) 22 5 rfl u (.int .u8 0) 1 Try.underlying22 infoB rfl (by decide) _ m (bV cur0) rfl HK4.out A4a V1.length c4a (bV V1) rfl (by simp [bV]) (put_row HO4a.out) (bV_one V1) (by omega) ((HG.out.alloc _).trans HG4a.out) ?_; intro A4 c4 w4 ho4 _ hg4 hgb4 hor4; have BK4 := Lib.hid ((HBKs.out.grew HG4a.out).grown hgb4 (fun e => HOl.out _ e rfl)); have NE4 : Hid (∀ k, (Value.slice A4 (m + V1.length) c4).ownBlock = some k → k ≠ wr.heap.size) := Lib.hid (own_ne hor4 HOl.out (HBKs.out.grew HG4a.out).lt); have HO4 := Lib.hid (own_join ho4); have HG4 := Lib.hid hg4; clear ho4 hg4 hgb4 hor4; have f1 := BK4.out.cell 1; have fl := BK4.out.lt; simp at f1))
            go_wp2_with (first | (go_at_call 18; refine (N2.out _).mono ?_; rintro e w5a ⟨A5a, c5a, rfl, ho5a, hg5a⟩; have HO5a := Lib.hid ho5a; have HG5a := Lib.hid hg5a; clear ho5a hg5a; have HK5 := Lib.hid (own_grew HO4.out HG5a.out)) | (at_builtin; refine wpList_app rfl (.tmp 73) (.tmp 77) 22 5 rfl u (.int .u8 0) 1 Try.underlying22 infoB rfl (by decide) _ (m + V1.length) (bV (cur0 ++ V1)) rfl HK5.out A5a V2.length c5a (bV V2) rfl (by simp [bV]) (put_row HO5a.out) (bV_one V2) (by omega) (HG4.out.trans HG5a.out) ?_; intro A5 c5 w5 ho5 _ hg5 hgb5 hor5; have BK5 := Lib.hid ((BK4.out.grew HG5a.out).grown hgb5 (fun e => NE4.out _ e rfl)); have NE5 : Hid (∀ k, (Value.slice A5 ((m + V1.length) + V2.length) c5).ownBlock = some k → k ≠ wr.heap.size) := Lib.hid (own_ne hor5 NE4.out (BK4.out.grew HG5a.out).lt); have HO5 := Lib.hid (own_join ho5); have HG5 := Lib.hid hg5; clear ho5 hg5 hgb5 hor5; have f1 := BK5.out.cell 1; have fl := BK5.out.lt; simp at f1))
            have HMl : Hid (((m + V1.length) + V2.length) = ((cur0 ++ V1) ++ V2).length) := Lib.hid (by rw [List.length_append, List.length_append, HM.out])
            try clear HO
            try clear HG
            try clear HM
            try clear HBKs
            try clear HOl
            try clear hbw
            try clear s0'
            try clear s1'
            try clear f1
            try clear fl
            try clear q0
            try clear hlt0
            try clear HK4
            try clear HO4a
            try clear HG4a
            try clear HK5
            try clear HO5a
            try clear HG5a
            try clear HO4
            try clear HG4
            try clear BK4
            try clear NE4
            try clear N1
            try clear N2
            generalize wr.heap.size = bS at *
            generalize (m + V1.length) + V2.length = m5 at *
            generalize (cur0 ++ V1) ++ V2 = pre at *
            go_loopw [3, 8] (fun v i wx => BytesK u (colsB pre cols) cols.length bS 97 #[.int .i64 rows, .slice B cols.length kk] v i wx) (fun _ i _ => cols.length - (intOf i).toNat)
            case atStart => exact ⟨0, _, A5, c5, Nat.zero_le _, rfl, by rw [HC0.out, HMl.out], rfl, by rw [HC0.out]; exact HO5.out, HG5.out, BK5.out, NE5.out⟩
            case round =>
              try clear HO5
              try clear HG5
              try clear BK5
              try clear NE5
              try clear HC0
              try clear HMl
              obtain ⟨k, m3, A9, c9, hk, rfl, hm3, rfl, ho9, hg9, hb9, hn9⟩ := hrel
              have HO9 := Lib.hid ho9
              have HG9 := Lib.hid hg9
              have BK9 := Lib.hid hb9
              have NE9 := Lib.hid hn9
              have HM9 := Lib.hid hm3
              have q1 := hb9.cell 1
              have ql := hb9.lt
              simp at q1
              try clear ho9
              try clear hg9
              try clear hb9
              try clear hn9
              try clear hm3
              by_cases hlt : k < cols.length
              · obtain ⟨cb, co, M, mk, rfl, hcb, hrm, t0, t1, t2⟩ := colsR_at HRr.out hlt
                have hc0 : ∀ W, Grew u W → W.cell? ⟨cb, co + k * 3, none⟩ = some (.int .i64 cols[k].u) ∧ W.cell? ⟨cb, co + k * 3 + 1, none⟩ = some (.int .i64 cols[k].n) ∧ W.cell? ⟨cb, co + k * 3 + 2, none⟩ = some (.slice M cols[k].m.length mk) ∧ cb < W.heap.size := fun W hW =>
                  ⟨(grew_cell hW (o := co + k * 3) hcb).trans t0, (grew_cell hW (o := co + k * 3 + 1) hcb).trans t1, (grew_cell hW (o := co + k * 3 + 2) hcb).trans t2, Nat.lt_of_lt_of_le hcb hW.size⟩
                have HCs := Lib.hid hc0
                have HRM := Lib.hid hrm
                have hokC := HT3.out cols[k] (List.getElem_mem hlt)
                have HNk := Lib.hid (colsB_next pre cols k hlt)
                have l0 := HLe.out k
                have l1 := HLe.out (k + 1)
                rw [HNk.out, List.length_append, List.length_append, List.length_append] at l1
                try clear t0
                try clear t1
                try clear t2
                try clear hcb
                try clear hrm
                try clear hc0
                generalize cols[k] = x at *
                obtain ⟨xu, xn, xm⟩ := x
                obtain ⟨y1, y2, y3, y4⟩ := hokC
                simp only at *
                have y1' : small64 xu := y1
                have y2' : small64 xn := y2
                have y3' : ∀ x ∈ xm, small64 x := y3
                have y4' : xm.length ≤ 10000 := y4
                try clear y1
                try clear y2
                try clear y3
                try clear y4
                have N1 : Hid (∀ W, Calls Try.prog 18 #[.int .i64 xu] W (PutF W (vb (zz xu)))) := Lib.hid (HI.out _ y1')
                have N2 : Hid (∀ W, Calls Try.prog 18 #[.int .i64 xn] W (PutF W (vb (zz xn)))) := Lib.hid (HI.out _ y2')
                have N3 : Hid (∀ W, Grew u W → Calls Try.prog 19 #[.slice M xm.length mk] W (PutF W (vbs xm))) := Lib.hid fun W hW => rints_any xm M mk y4' y3' W (HRM.out.grew hW)
                obtain ⟨p0, p1, p2, pl⟩ := HCs.out wr HG9.out
                try clear y1'
                try clear y2'
                try clear y3'
                try clear y4'
                generalize vb (zz xu) = V1 at *
                generalize vb (zz xn) = V2 at *
                generalize vbs xm = V3 at *
                generalize colsB pre cols k = cur at *
                have hm9 : m3 + V1.length + V2.length + V3.length ≤ 800000 := by rw [HM9.out]; omega
                clear l0 l1
                go_upto_region 21 with (first | (go_at_call 18; refine (N1.out _).mono ?_; rintro e w6a ⟨A6a, c6a, rfl, ho6a, hg6a⟩; have HO6a := Lib.hid ho6a; have HG6a := Lib.hid hg6a; clear ho6a hg6a; have HK6 := Lib.hid (own_grew HO9.out HG6a.out)) | (at_builtin; refine wpList_app rfl (.tmp 86) (.tmp 93) 22 5 rfl u (.int .u8 0) 1 Try.underlying22 infoB rfl (by decide) _ m3 (bV cur) rfl HK6.out A6a V1.length c6a (bV V1) rfl (by simp [bV]) (put_row HO6a.out) (bV_one V1) (by omega) (HG9.out.trans HG6a.out) ?_; intro A6 c6 w6 ho6 _ hg6 hgb6 hor6; have BK6 := Lib.hid ((BK9.out.grew HG6a.out).grown hgb6 (fun e => NE9.out _ e rfl)); have NE6 : Hid (∀ k, (Value.slice A6 (m3 + V1.length) c6).ownBlock = some k → k ≠ bS) := Lib.hid (own_ne hor6 NE9.out (BK9.out.grew HG6a.out).lt); have HO6 := Lib.hid (own_join ho6); have HG6 := Lib.hid hg6; clear ho6 hg6 hgb6 hor6; have f1 := BK6.out.cell 1; have fl := BK6.out.lt; simp at f1))
                try clear HK6
                try clear HO6a
                try clear HG6a
                try clear p0
                try clear p1
                try clear p2
                try clear pl
                try clear q1
                try clear ql
                try clear N1
                obtain ⟨p0, p1, p2, pl⟩ := HCs.out w6 HG6.out
                go_upto_region 22 with (first | (go_at_call 18; refine (N2.out _).mono ?_; rintro e w7a ⟨A7a, c7a, rfl, ho7a, hg7a⟩; have HO7a := Lib.hid ho7a; have HG7a := Lib.hid hg7a; clear ho7a hg7a; have HK7 := Lib.hid (own_grew HO6.out HG7a.out)) | (at_builtin; refine wpList_app rfl (.tmp 95) (.tmp 102) 22 5 rfl u (.int .u8 0) 1 Try.underlying22 infoB rfl (by decide) _ (m3 + V1.length) (bV (cur ++ V1)) rfl HK7.out A7a V2.length c7a (bV V2) rfl (by simp [bV]) (put_row HO7a.out) (bV_one V2) (by omega) (HG6.out.trans HG7a.out) ?_; intro A7 c7 w7 ho7 _ hg7 hgb7 hor7; have BK7 := Lib.hid ((BK6.out.grew HG7a.out).grown hgb7 (fun e => NE6.out _ e rfl)); have NE7 : Hid (∀ k, (Value.slice A7 ((m3 + V1.length) + V2.length) c7).ownBlock = some k → k ≠ bS) := Lib.hid (own_ne hor7 NE6.out (BK6.out.grew HG7a.out).lt); have HO7 := Lib.hid (own_join ho7); have HG7 := Lib.hid hg7; clear ho7 hg7 hgb7 hor7; have f1 := BK7.out.cell 1; have fl := BK7.out.lt; simp at f1))
                try clear HK7
                try clear HO7a
                try clear HG7a
                try clear p0
                try clear p1
                try clear p2
                try clear pl
                try clear N2
                try clear HO6
                try clear HG6
                try clear BK6
                try clear NE6
                obtain ⟨p0, p1, p2, pl⟩ := HCs.out w7 HG7.out
                go_wp2_with (first | (go_at_call 19; refine (N3.out _ HG7.out).mono ?_; rintro e w8a ⟨A8a, c8a, rfl, ho8a, hg8a⟩; have HO8a := Lib.hid ho8a; have HG8a := Lib.hid hg8a; clear ho8a hg8a; have HK8 := Lib.hid (own_grew HO7.out HG8a.out)) | (at_builtin; refine wpList_app rfl (.tmp 104) (.tmp 111) 22 5 rfl u (.int .u8 0) 1 Try.underlying22 infoB rfl (by decide) _ (m3 + V1.length + V2.length) (bV ((cur ++ V1) ++ V2)) rfl HK8.out A8a V3.length c8a (bV V3) rfl (by simp [bV]) (put_row HO8a.out) (bV_one V3) (by omega) (HG7.out.trans HG8a.out) ?_; intro A8 c8 w8 ho8 _ hg8 hgb8 hor8; have BK8 := Lib.hid ((BK7.out.grew HG8a.out).grown hgb8 (fun e => NE7.out _ e rfl)); have NE8 : Hid (∀ k, (Value.slice A8 ((m3 + V1.length + V2.length) + V3.length) c8).ownBlock = some k → k ≠ bS) := Lib.hid (own_ne hor8 NE7.out (BK7.out.grew HG8a.out).lt); have HO8 := Lib.hid (own_join ho8); have HG8 := Lib.hid hg8; clear ho8 hg8 hgb8 hor8))
                exact ⟨⟨k + 1, m3 + V1.length + V2.length + V3.length, A8, c8, by omega, by go_num, by rw [HNk.out, List.length_append, List.length_append, List.length_append, HM9.out], rfl, by rw [HNk.out]; exact HO8.out, HG8.out, BK8.out, NE8.out⟩, by simp only [intOf]; omega⟩
              · obtain rfl : k = cols.length := by omega
                go_wp2
                exact ⟨⟨j + 1, m3, A9, c9, by omega, by go_num, by rw [HNx.out]; exact HM9.out, rfl, by rw [HNx.out]; exact HO9.out, HG9.out⟩, by simp only [intOf]; omega⟩
          · obtain rfl : j = ts.length := by omega
            have eF := HAll.out
            have eM := HM.out
            rw [eF] at eM
            have HF : PutF w all (.returned (.slice A m c)) wr := by
              subst eM
              have ho := HO.out
              rw [eF] at ho
              exact ⟨A, c, rfl, own_le ho HGu.out.size, HGu.out.trans HG.out⟩
            have HFh := Lib.hid HF
            clear eF HF eM
            go_wp2
            go_ret
            exact HFh.out
end Go.Proofs.Ytcokhgomibimcaa
