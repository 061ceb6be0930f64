/- Layer 39: a way to ask, put. Condition: numbers of 64 bits, not more than 800000 bytes. -/
import Derived.Test.YtcokhgomibimcaaAsk8
import Derived.Test.YtcokhgomibimcaaPut
namespace Go.Proofs.Ytcokhgomibimcaa
open Go.RowKit
attribute [local go_sem] more_cell more_frozen more_more more_setCell more_of_drew more_of_drewN lt_more le_more past_cell past_cell2 past_frozen past_frozen2 past_setCell past_setCell2 mid_cell mid_frozen mid_setCell
attribute [local go_sem ↓] Go.wp_at_zero Go.wp_at_succ

def okC (c : ColS) : Prop := small64 c.u ∧ small64 c.n ∧ (∀ x ∈ c.m, small64 x) ∧ c.m.length ≤ 10000
def okT (s : StatS) : Prop := small64 s.rows ∧ s.cols.length ≤ 10000 ∧ ∀ c ∈ s.cols, okC c
def okO (o : OptS) : Prop := small64 o.o0 ∧ small64 o.o1 ∧ small64 o.o2 ∧ small64 o.o3 ∧ small64 o.o4 ∧ small64 o.o5
def okA (a : AskS) : Prop := (∀ s ∈ a.stats, okT s) ∧ a.stats.length ≤ 10000 ∧ okO a.o ∧ (∀ x ∈ a.picks, small64 x) ∧ a.picks.length ≤ 10000 ∧ (putA a).length ≤ 800000
def vbl (l : List Int) : List Nat := (l.map fun n => vb (zz n)).flatten
theorem vbl_take (l : List Int) (j : Nat) (h : j < l.length) : vbl (l.take (j + 1)) = vbl (l.take j) ++ vb (zz l[j]) := by
  unfold vbl
  rw [List.take_succ_eq_append_getElem h, List.map_append, List.flatten_append]
  simp
theorem putCs_take (l : List ColS) (j : Nat) (h : j < l.length) : putCs (l.take (j + 1)) = putCs (l.take j) ++ putC l[j] := by
  unfold putCs
  rw [List.take_succ_eq_append_getElem h, List.map_append, List.flatten_append]
  simp
theorem putTs_take (l : List StatS) (j : Nat) (h : j < l.length) : putTs (l.take (j + 1)) = putTs (l.take j) ++ putT l[j] := by
  unfold putTs
  rw [List.take_succ_eq_append_getElem h, List.map_append, List.flatten_append]
  simp
theorem putCs_le (l : List ColS) (j : Nat) : (putCs (l.take j)).length ≤ (putCs l).length := by
  have e : putCs l = putCs (l.take j) ++ putCs (l.drop j) := by
    unfold putCs
    rw [← List.flatten_append, ← List.map_append, List.take_append_drop]
  rw [e, List.length_append]
  omega
theorem putTs_le (l : List StatS) (j : Nat) : (putTs (l.take j)).length ≤ (putTs l).length := by
  have e : putTs l = putTs (l.take j) ++ putTs (l.drop j) := by
    unfold putTs
    rw [← List.flatten_append, ← List.map_append, List.take_append_drop]
  rw [e, List.length_append]
  omega
def sevenI (a : AskS) : List Int := [forceI a.force, a.o.o0, a.o.o1, a.o.o2, a.o.o3, a.o.o4, a.o.o5]
def head1 (a : AskS) : List Nat := vbl (sevenI a)
def head2 (a : AskS) : List Nat := head1 a ++ vbs a.picks
def head3 (a : AskS) : List Nat := head2 a ++ vb (zz a.stats.length)
theorem putA_head (a : AskS) : putA a = head3 a ++ putTs a.stats := by
  unfold putA head3 head2 head1 vbl sevenI putO
  simp
theorem head_len (a : AskS) : (head1 a).length ≤ 70 ∧ (head2 a).length ≤ (putA a).length ∧ (head3 a).length ≤ (putA a).length := by
  refine ⟨?_, ?_, ?_⟩
  · unfold head1 vbl sevenI
    simp only [List.map_cons, List.map_nil, List.flatten_cons, List.flatten_nil, List.length_append, List.length_nil]
    have h0 := vb_len (zz (forceI a.force))
    have h1 := vb_len (zz a.o.o0)
    have h2 := vb_len (zz a.o.o1)
    have h3 := vb_len (zz a.o.o2)
    have h4 := vb_len (zz a.o.o3)
    have h5 := vb_len (zz a.o.o4)
    have h6 := vb_len (zz a.o.o5)
    omega
  · rw [putA_head, head3, List.length_append, List.length_append]
    omega
  · rw [putA_head, List.length_append]
    omega
def sevenB (sv : List Int) (j : Nat) : List Nat := vbl (sv.take j)
def statsB (h : List Nat) (ts : List StatS) (j : Nat) : List Nat := h ++ putTs (ts.take j)
def colsB (h : List Nat) (cs : List ColS) (j : Nat) : List Nat := h ++ putCs (cs.take j)
theorem colsB_next (h : List Nat) (cs : List ColS) (j : Nat) (hj : j < cs.length) : colsB h cs (j + 1) = (colsB h cs j ++ vb (zz cs[j].u)) ++ vb (zz cs[j].n) ++ vbs cs[j].m := by
  unfold colsB
  rw [putCs_take cs j hj]
  unfold putC
  simp [List.append_assoc]
theorem statsB_next (h : List Nat) (ts : List StatS) (j : Nat) (hj : j < ts.length) : statsB h ts (j + 1) = colsB ((statsB h ts j ++ vb (zz ts[j].rows)) ++ vb (zz ts[j].cols.length)) ts[j].cols ts[j].cols.length := by
  unfold statsB colsB
  rw [putTs_take ts j hj, List.take_length]
  unfold putT
  simp [List.append_assoc]
theorem colsB_le (h : List Nat) (cs : List ColS) (j : Nat) : (colsB h cs j).length ≤ (colsB h cs cs.length).length := by
  unfold colsB
  rw [List.length_append, List.length_append, List.take_length]
  have := putCs_le cs j
  omega
/-- While bytes are put, one by one. -/
def BytesAt (u : World) (bs : Nat → List Nat) (n : Nat) (v i : Value) (wr : World) : Prop :=
  ∃ (j : Nat) (A : Option Addr) (c : Nat), j ≤ n ∧ i = .int .i64 j ∧ v = .slice A (bs j).length c ∧ wr.ownsRow u.heap.size 5 1 (.slice A (bs j).length c) (bs j).length (bV (bs j)) ∧ Grew u wr
theorem PutS.weak {u w0 : World} {r : Option Nat} {bs : List Nat} {e : Ending} {w' : World} (h : PutS u w0 r bs e w') : PutF u bs e w' := by
  obtain ⟨A, c, h1, h2, h3, _⟩ := h
  exact ⟨A, c, h1, h2, h3⟩
theorem grew_cell {w w' : World} (h : Grew w w') {b o : Nat} (hb : b < w.heap.size) : w'.cell? ⟨b, o, none⟩ = w.cell? ⟨b, o, none⟩ := by
  obtain ⟨x, rfl⟩ := h
  exact more_cell w x _ hb
theorem puts_next {u : World} {cur nxt : List Nat} {l : List Int} (hn : nxt = cur ++ vbs l) (hs : ∀ x ∈ l, small64 x) (hll : l.length ≤ 10000) (hl : cur.length ≤ 800000) (W : World) (A : Option Addr) (c : Nat) (L : Option Addr) (d : Nat) (ho : W.ownsRow u.heap.size 5 1 (.slice A cur.length c) cur.length (bV cur)) (hg : Grew u W) (hr : Row u L (iV l)) :
    Calls Try.prog 97 #[.slice A cur.length c, .slice L l.length d] W (PutS u W (Value.slice A cur.length c).ownBlock nxt) := by
  rw [hn]
  exact puts_strong u cur A c l L d hl hll hs W ho hg hr
theorem put_next {u : World} {cur nxt : List Nat} {x : Int} (hn : nxt = cur ++ vb (zz x)) (hx : small64 x) (hl : cur.length ≤ 1000000) (W : World) (A : Option Addr) (c : Nat) (ho : W.ownsRow u.heap.size 5 1 (.slice A cur.length c) cur.length (bV cur)) (hg : Grew u W) :
    Calls Try.prog 95 #[.slice A cur.length c, .int .i64 x] W (PutS u W (Value.slice A cur.length c).ownBlock nxt) := by
  rw [hn]
  exact put_strong u cur A c x hx.1 hx.2 hl W ho hg
theorem small_len {n : Nat} (h : n ≤ 1000000) : small64 (n : Int) := ⟨by omega, by omega⟩
theorem small_force (f : Bool) : small64 (forceI f) := by cases f <;> exact ⟨by decide, by decide⟩
theorem own_rows {W : World} {base n c m : Nat} {A : Option Addr} {bs : List Nat} (h : W.ownsRow base 5 1 (.slice A n c) n (bV bs)) (e : n = m) : W.ownsRow base 5 1 (.slice A m c) m (bV bs) := by subst e; exact h
set_option maxHeartbeats 4000000 in
set_option maxRecDepth 100000 in
theorem put_walk (a : AskS) (Q P : Option Addr) (jq kp : Nat) (hok : okA a) (w : World) (h1 : StatsR (PRow w) Q a.stats) (h2 : Row w P (iV a.picks)) :
    Calls Try.prog 26 #[askV a Q P jq kp] w (PutF w (putA a)) := by
  obtain ⟨k1, k2, k3, k4, k5, k6⟩ := hok
  have hd := head_len a
  obtain ⟨hd1, hd2, hd3⟩ := hd
  obtain ⟨all, hall⟩ : ∃ all, putA a = all := ⟨_, rfl⟩
  have HAll : Hid (head3 a ++ putTs a.stats = all) := Lib.hid (by rw [← putA_head]; exact hall)
  rw [hall] at hd2 hd3 k6 ⊢
  clear hall
  have H7 : Hid (∀ j, (h : j < (sevenI a).length) → vbl ((sevenI a).take (j + 1)) = vbl ((sevenI a).take j) ++ vb (zz (sevenI a)[j])) := Lib.hid fun j h => vbl_take _ j h
  have H7s : Hid (∀ x ∈ sevenI a, small64 x) := Lib.hid (by
    intro x hx
    obtain ⟨o0, o1, o2, o3, o4, o5⟩ := k3
    simp only [sevenI, List.mem_cons, List.not_mem_nil, or_false] at hx
    rcases hx with rfl | rfl | rfl | rfl | rfl | rfl | rfl
    · exact small_force _
    all_goals assumption)
  have H7l : Hid (∀ j, (vbl ((sevenI a).take j)).length ≤ 1000) := Lib.hid fun j => by
    have e : vbl (sevenI a) = vbl ((sevenI a).take j) ++ vbl ((sevenI a).drop j) := by
      unfold vbl
      rw [← List.flatten_append, ← List.map_append, List.take_append_drop]
    have h : (vbl (sevenI a)).length ≤ 70 := hd1
    rw [e, List.length_append] at h
    omega
  have HH1 : Hid (vbl ((sevenI a).take 7) = head1 a) := Lib.hid rfl
  have HQ := Lib.hid h1
  have HP := Lib.hid h2
  have K1 := Lib.hid k1
  have K4 := Lib.hid k4
  have HTl : Hid (∀ j, (head3 a ++ putTs (a.stats.take j)).length ≤ 800000) := Lib.hid fun j => by
    have h := putTs_le a.stats j
    have e := congrArg List.length HAll.out
    rw [List.length_append] at e ⊢
    omega
  have hsev : sevenI a = [forceI a.force, a.o.o0, a.o.o1, a.o.o2, a.o.o3, a.o.o4, a.o.o5] := rfl
  clear h1 h2 k1 k3 k4
  unfold askV
  obtain ⟨ts, f, o, pk⟩ := a
  obtain ⟨o0, o1, o2, o3, o4, o5⟩ := o
  simp only at *
  generalize hsv : sevenI ⟨ts, f, ⟨o0, o1, o2, o3, o4, o5⟩, pk⟩ = sv at *
  clear hsv
  have HSev := Lib.hid hsev
  have hsl : sv.length = 7 := by rw [hsev]; rfl
  have HSl := Lib.hid hsl
  clear hsev hsl
  generalize hh1 : head1 ⟨ts, f, ⟨o0, o1, o2, o3, o4, o5⟩, pk⟩ = hd1b at *
  have HH2 : Hid (head2 ⟨ts, f, ⟨o0, o1, o2, o3, o4, o5⟩, pk⟩ = hd1b ++ vbs pk) := Lib.hid (by rw [← hh1]; rfl)
  have HH3 : Hid (head3 ⟨ts, f, ⟨o0, o1, o2, o3, o4, o5⟩, pk⟩ = (hd1b ++ vbs pk) ++ vb (zz ts.length)) := Lib.hid (by rw [← hh1]; rfl)
  rw [HH2.out] at hd2
  generalize head3 ⟨ts, f, ⟨o0, o1, o2, o3, o4, o5⟩, pk⟩ = h3 at *
  clear hh1 HH2
  have fin : ∀ (fi : Int), forceI f = fi → (fi = 1 ∧ f = true ∨ fi = 0 ∧ f = false) → Calls Try.prog 26 #[.agg #[.slice Q ts.length jq, .bool f, .int .i64 o0, .int .i64 o1, .int .i64 o2, .int .i64 o3, .int .i64 o4, .int .i64 o5, .slice P pk.length kp]] w (PutF w all) := by
    intro fi hfi hcase
    rw [hfi] at HSev
    clear hfi
    rcases hcase with ⟨rfl, rfl⟩ | ⟨rfl, rfl⟩
    · have B1 := (Blok.new w 39 (askCs (.slice Q ts.length jq) true ⟨o0, o1, o2, o3, o4, o5⟩ (.slice P pk.length kp)) _ rfl).alloc (.cells #[.int .i64 1, .int .i64 o0, .int .i64 o1, .int .i64 o2, .int .i64 o3, .int .i64 o4, .int .i64 o5] 3)
      have RS : Row ((w.alloc (.cells (askCs (.slice Q ts.length jq) true ⟨o0, o1, o2, o3, o4, o5⟩ (.slice P pk.length kp)) 39)).alloc (.cells #[.int .i64 1, .int .i64 o0, .int .i64 o1, .int .i64 o2, .int .i64 o3, .int .i64 o4, .int .i64 o5] 3)) (some ⟨w.heap.size + 1, 0, none⟩) (iV sv) := by
        rw [HSev.out]
        exact row_new _ _ _ #[.int .i64 1, .int .i64 o0, .int .i64 o1, .int .i64 o2, .int .i64 o3, .int .i64 o4, .int .i64 o5] (by simp)
      have hgu : Grew w ((w.alloc (.cells (askCs (.slice Q ts.length jq) true ⟨o0, o1, o2, o3, o4, o5⟩ (.slice P pk.length kp)) 39)).alloc (.cells #[.int .i64 1, .int .i64 o0, .int .i64 o1, .int .i64 o2, .int .i64 o3, .int .i64 o4, .int .i64 o5] 3)) := ((Grew.refl w).alloc _).alloc _
      simp only [askCs] at B1 RS hgu
      have HB1 := Lib.hid B1
      have HRS := Lib.hid RS
      have HGu := Lib.hid hgu
      clear B1 RS hgu
      go_enter Try.func26, Try.ntmps26
      go_wp2_with fail
      generalize ((w.alloc (.cells #[.slice Q ts.length jq, .bool true, .int .i64 o0, .int .i64 o1, .int .i64 o2, .int .i64 o3, .int .i64 o4, .int .i64 o5, .slice P pk.length kp] 39)).alloc (.cells #[.int .i64 1, .int .i64 o0, .int .i64 o1, .int .i64 o2, .int .i64 o3, .int .i64 o4, .int .i64 o5] 3)) = u at *
      go_loopw [4, 34] (fun v i wr => BytesAt u (sevenB sv) 7 v i wr) (fun _ i _ => 7 - (intOf i).toNat)
      case atStart => exact ⟨0, none, 0, Nat.zero_le _, rfl, rfl, own_none _ _ _ _, Grew.refl _⟩
      case round =>
        obtain ⟨j, A, c, hj, rfl, rfl, ho, hg⟩ := hrel
        have HO := Lib.hid ho
        have HG := Lib.hid hg
        clear ho hg
        by_cases h : j < 7
        · have hjs : j < sv.length := by have := HSl.out; omega
          obtain ⟨hb, cx⟩ := irow_cell (HRS.out.grew HG.out) hjs rfl
          rw [Nat.zero_add] at cx
          have HNx : Hid (∀ W, W.ownsRow u.heap.size 5 1 (.slice A (sevenB sv j).length c) (sevenB sv j).length (bV (sevenB sv j)) → Grew u W → Calls Try.prog 95 #[.slice A (sevenB sv j).length c, .int .i64 sv[j]] W (PutF u (sevenB sv (j + 1)))) := Lib.hid fun W h1 h2 => (put_next (H7.out j hjs) (H7s.out _ (List.getElem_mem hjs)) (Nat.le_trans (H7l.out j) (by decide)) W A c h1 h2).mono fun _ _ h => h.weak
          generalize sv[j] = x at *
          generalize sevenB sv j = cur at *
          go_wp2_with (go_at_call 95; refine (HNx.out _ HO.out HG.out).mono ?_; rintro e w3 ⟨A3, c3, rfl, ho3, hg3⟩; have HO3 := Lib.hid ho3; have HG3 := Lib.hid hg3; clear ho3 hg3)
          exact ⟨⟨j + 1, A3, c3, by omega, by go_num, rfl, HO3.out, HG3.out⟩, by simp only [intOf]; omega⟩
        · obtain rfl : j = 7 := by omega
          have e7 : sevenB sv 7 = hd1b := HH1.out
          rw [e7] at HO ⊢
          have q8 := (HB1.out.grew HG.out).cell 8
          have hlt8 := (HB1.out.grew HG.out).lt
          simp at q8
          clear e7 HRS H7 H7s H7l HSev HSl h hj
          have HPu : Hid (∀ W, W.ownsRow u.heap.size 5 1 (.slice A hd1b.length c) hd1b.length (bV hd1b) → Grew u W → Calls Try.prog 97 #[.slice A hd1b.length c, .slice P pk.length kp] W (PutF u (hd1b ++ vbs pk))) := Lib.hid fun W h1 h2 => (puts_next rfl K4.out k5 (by omega) W A c P kp h1 h2 (HP.out.grew HGu.out)).mono fun _ _ h => h.weak
          generalize hd1b ++ vbs pk = hd2b at *
          go_wp2_with fail
          refine (HPu.out _ HO.out HG.out).mono ?_
          rintro e w3 ⟨A3, c3, rfl, ho3, hg3⟩
          have HO3 := Lib.hid ho3
          have HG3 := Lib.hid hg3
          have q0 := (HB1.out.grew hg3).cell 0
          have hlt0 := (HB1.out.grew hg3).lt
          simp at q0
          clear ho3 hg3 q8 hlt8 HO HG
          go_wp2_with fail
          refine (put_next HH3.out (small_len (by omega)) (by omega) _ A3 c3 HO3.out HG3.out).mono ?_
          rintro e w4 ⟨A4, c4, rfl, ho4, hg4, _, _⟩
          have HO4 := Lib.hid ho4
          have HG4 := Lib.hid hg4
          have q0 := (HB1.out.grew hg4).cell 0
          have hlt0 := (HB1.out.grew hg4).lt
          simp at q0
          clear ho4 hg4 HO3 HG3
          go_wp2_with fail
          have es0 : statsB h3 ts 0 = h3 := by simp [statsB, putTs]
          have ES0 := Lib.hid es0
          clear es0 q0 hlt0
          go_loopw [4, 54] (fun v i wr => BytesAt u (statsB h3 ts) ts.length v i wr) (fun _ i _ => ts.length - (intOf i).toNat)
          case atStart => exact ⟨0, A4, c4, Nat.zero_le _, rfl, by rw [ES0.out], by rw [ES0.out]; exact HO4.out, HG4.out⟩
          case round =>
            clear HO4 HG4 ES0 HH3
            obtain ⟨j, A5, c5, hj, rfl, rfl, ho, hg⟩ := hrel
            have HO := Lib.hid ho
            have HG := Lib.hid hg
            clear ho hg
            by_cases h : j < ts.length
            · obtain ⟨b, oo, B, kk, rfl, hb, hrr, s0, s1⟩ := statsR_at (HQ.out.grew HGu.out) h
              have s0' := (grew_cell HG.out (o := oo + j * 2) hb).trans s0
              have s1' := (grew_cell HG.out (o := oo + j * 2 + 1) hb).trans s1
              have hbw : b < wr.heap.size := Nat.lt_of_lt_of_le hb HG.out.size
              clear s0 s1
              have HRr := Lib.hid hrr
              have hokT := K1.out ts[j] (List.getElem_mem h)
              have HNx := Lib.hid (statsB_next h3 ts j h)
              have hl0 := HTl.out j
              have hl1 := HTl.out (j + 1)
              have hl0' : (statsB h3 ts j).length ≤ 800000 := hl0
              have hl1' : (statsB h3 ts (j + 1)).length ≤ 800000 := hl1
              clear hl0 hl1 hrr
              generalize ts[j] = x at *
              obtain ⟨rows, cols⟩ := x
              simp only at *
              obtain ⟨t1, t2, t3⟩ := hokT
              have t2' : cols.length ≤ 10000 := t2
              have t1' : small64 rows := t1
              have t3' : ∀ c ∈ cols, okC c := t3
              clear t1 t2 t3
              have HT3 := Lib.hid t3'
              have hv1 := vb_len (zz rows)
              have hv2 := vb_len (zz (cols.length : Int))
              have hle : ∀ k, (colsB ((statsB h3 ts j ++ vb (zz rows)) ++ vb (zz cols.length)) cols k).length ≤ 800000 := fun k => by
                have h1 := colsB_le ((statsB h3 ts j ++ vb (zz rows)) ++ vb (zz cols.length)) cols k
                rw [← HNx.out] at h1
                omega
              have HLe := Lib.hid hle
              clear hle t3'
              have hc0 : colsB ((statsB h3 ts j ++ vb (zz rows)) ++ vb (zz cols.length)) cols 0 = (statsB h3 ts j ++ vb (zz rows)) ++ vb (zz cols.length) := by simp [colsB, putCs]
              have HC0 := Lib.hid hc0
              clear hc0
              have hcl1 : (statsB h3 ts j ++ vb (zz rows)).length ≤ 1000000 := by rw [List.length_append]; omega
              have N1 : Hid (∀ W, W.ownsRow u.heap.size 5 1 (.slice A5 (statsB h3 ts j).length c5) (statsB h3 ts j).length (bV (statsB h3 ts j)) → Grew u W → Calls Try.prog 95 #[.slice A5 (statsB h3 ts j).length c5, .int .i64 rows] W (PutS u W (Value.slice A5 (statsB h3 ts j).length c5).ownBlock (statsB h3 ts j ++ vb (zz rows)))) := Lib.hid fun W h1 h2 => put_next rfl t1' (by omega) W A5 c5 h1 h2
              have N2 : Hid (∀ W A c, W.ownsRow u.heap.size 5 1 (.slice A (statsB h3 ts j ++ vb (zz rows)).length c) (statsB h3 ts j ++ vb (zz rows)).length (bV (statsB h3 ts j ++ vb (zz rows))) → Grew u W → Calls Try.prog 95 #[.slice A (statsB h3 ts j ++ vb (zz rows)).length c, .int .i64 cols.length] W (PutS u W (Value.slice A (statsB h3 ts j ++ vb (zz rows)).length c).ownBlock ((statsB h3 ts j ++ vb (zz rows)) ++ vb (zz cols.length)))) := Lib.hid fun W A c h1 h2 => put_next rfl (small_len (by omega)) hcl1 W A c h1 h2
              generalize ((statsB h3 ts j ++ vb (zz rows)) ++ vb (zz cols.length)) = pre at *
              generalize statsB h3 ts j ++ vb (zz rows) = cur1 at *
              generalize statsB h3 ts j = cur0 at *
              clear hv1 hv2 t1' hcl1
              have BK := Blok.new wr 97 #[.int .i64 rows, .slice B cols.length kk] _ rfl
              have HBK := Lib.hid BK
              have HOl := Lib.hid (own_lt HO.out)
              clear BK
              go_wp2_with fail
              refine (N1.out _ (own_alloc HO.out _) (HG.out.alloc _)).mono ?_
              rintro e w6 ⟨A6, c6, rfl, ho6, hg6, hgb6, hf6⟩
              have HO6 := Lib.hid ho6
              have HG6 := Lib.hid hg6
              have BK6 := Lib.hid (HBK.out.grown hgb6 (fun e => by have := HOl.out _ e; omega))
              have HF6 : Hid (∀ k, (Value.slice A6 cur1.length c6).ownBlock = some k → k ≠ wr.heap.size) := Lib.hid fun k hk => by
                rcases hf6 with h6 | h6
                · rw [h6] at hk
                  have := HOl.out _ hk
                  omega
                · have := h6 _ hk
                  simp at this
                  omega
              clear ho6 hg6 hgb6 hf6 HBK HOl HO HG
              have f1 := BK6.out.cell 1
              have fl := BK6.out.lt
              simp at f1
              go_wp2_with fail
              refine (N2.out _ A6 c6 HO6.out HG6.out).mono ?_
              rintro e w7 ⟨A7, c7, rfl, ho7, hg7, hgb7, _⟩
              have HO7 := Lib.hid ho7
              have HG7 := Lib.hid hg7
              have BK7 := Lib.hid (BK6.out.grown hgb7 (fun e => HF6.out _ e rfl))
              clear ho7 hg7 hgb7 f1 fl BK6 HF6 HO6 HG6
              have f1 := BK7.out.cell 1
              have fl := BK7.out.lt
              simp at f1
              go_wp2_with fail
              clear f1 fl BK7 N1 N2
              obtain ⟨wo, rfl⟩ : ∃ wo : World, wo = wr := ⟨_, rfl⟩
              go_loopw [4, 70] (fun v i wx => BytesAt u (colsB pre cols) cols.length v i wx) (fun _ i _ => cols.length - (intOf i).toNat)
              case atStart => exact ⟨0, A7, c7, Nat.zero_le _, rfl, by rw [HC0.out], by rw [HC0.out]; exact HO7.out, HG7.out⟩
              case round =>
                clear HO7 HG7 HC0
                obtain ⟨k2, A8, c8, hk2, rfl, rfl, ho8, hg8⟩ := hrel
                have HO8 := Lib.hid ho8
                have HG8 := Lib.hid hg8
                clear ho8 hg8
                by_cases hk : k2 < cols.length
                · obtain ⟨bb, o2, M, mk, rfl, hbb, hrm, t0, t1, t2⟩ := colsR_at HRr.out hk
                  have q0 := (grew_cell HG8.out (o := o2 + k2 * 3) hbb).trans t0
                  have q1 := (grew_cell HG8.out (o := o2 + k2 * 3 + 1) hbb).trans t1
                  have q2 := (grew_cell HG8.out (o := o2 + k2 * 3 + 2) hbb).trans t2
                  have hbw2 : bb < wr.heap.size := Nat.lt_of_lt_of_le hbb HG8.out.size
                  have HRM := Lib.hid hrm
                  have hokC := HT3.out cols[k2] (List.getElem_mem hk)
                  have HNc := Lib.hid (colsB_next pre cols k2 hk)
                  have hla : (colsB pre cols k2).length ≤ 800000 := HLe.out k2
                  have hlb : (colsB pre cols (k2 + 1)).length ≤ 800000 := HLe.out (k2 + 1)
                  clear t0 t1 t2 hrm
                  generalize cols[k2] = x at *
                  obtain ⟨xu, xn, xm⟩ := x
                  simp only at *
                  obtain ⟨p1, p2, p3, p4⟩ := hokC
                  have p1' : small64 xu := p1
                  have p2' : small64 xn := p2
                  have p3' : ∀ z ∈ xm, small64 z := p3
                  have p4' : xm.length ≤ 10000 := p4
                  clear p1 p2 p3 p4
                  have hw1 := vb_len (zz xu)
                  have hw2 := vb_len (zz xn)
                  have hlc : (colsB pre cols k2 ++ vb (zz xu)).length ≤ 1000000 := by rw [List.length_append]; omega
                  have hld : ((colsB pre cols k2 ++ vb (zz xu)) ++ vb (zz xn)).length ≤ 800000 := by
                    have h1 := congrArg List.length HNc.out
                    rw [List.length_append] at h1
                    omega
                  have M1 : Hid (∀ W, W.ownsRow u.heap.size 5 1 (.slice A8 (colsB pre cols k2).length c8) (colsB pre cols k2).length (bV (colsB pre cols k2)) → Grew u W → Calls Try.prog 95 #[.slice A8 (colsB pre cols k2).length c8, .int .i64 xu] W (PutS u W (Value.slice A8 (colsB pre cols k2).length c8).ownBlock (colsB pre cols k2 ++ vb (zz xu)))) := Lib.hid fun W h1 h2 => put_next rfl p1' (by omega) W A8 c8 h1 h2
                  have M2 : Hid (∀ W A c, W.ownsRow u.heap.size 5 1 (.slice A (colsB pre cols k2 ++ vb (zz xu)).length c) (colsB pre cols k2 ++ vb (zz xu)).length (bV (colsB pre cols k2 ++ vb (zz xu))) → Grew u W → Calls Try.prog 95 #[.slice A (colsB pre cols k2 ++ vb (zz xu)).length c, .int .i64 xn] W (PutS u W (Value.slice A (colsB pre cols k2 ++ vb (zz xu)).length c).ownBlock ((colsB pre cols k2 ++ vb (zz xu)) ++ vb (zz xn)))) := Lib.hid fun W A c h1 h2 => put_next rfl p2' hlc W A c h1 h2
                  have M3 : Hid (∀ W A c, W.ownsRow u.heap.size 5 1 (.slice A ((colsB pre cols k2 ++ vb (zz xu)) ++ vb (zz xn)).length c) ((colsB pre cols k2 ++ vb (zz xu)) ++ vb (zz xn)).length (bV ((colsB pre cols k2 ++ vb (zz xu)) ++ vb (zz xn))) → Grew u W → Calls Try.prog 97 #[.slice A ((colsB pre cols k2 ++ vb (zz xu)) ++ vb (zz xn)).length c, .slice M xm.length mk] W (PutF u (colsB pre cols (k2 + 1)))) := Lib.hid fun W A c h1 h2 => (puts_next HNc.out p3' p4' hld W A c M mk h1 h2 HRM.out).mono fun _ _ h => h.weak
                  clear p1' p2' p3' hw1 hw2 hlc hld HNc HRM
                  generalize ((colsB pre cols k2 ++ vb (zz xu)) ++ vb (zz xn)) = n2 at *
                  generalize colsB pre cols k2 ++ vb (zz xu) = n1 at *
                  generalize colsB pre cols k2 = n0 at *
                  have HBK := Lib.hid (Blok.new wr 101 #[.int .i64 xu, .int .i64 xn, .slice M xm.length mk] _ rfl)
                  have HOl := Lib.hid (own_lt HO8.out)
                  go_wp2_with fail
                  refine (M1.out _ (own_alloc HO8.out _) (HG8.out.alloc _)).mono ?_
                  rintro e w9 ⟨A9, c9, rfl, ho9, hg9, hgb9, hf9⟩
                  have HO9 := Lib.hid ho9
                  have HG9 := Lib.hid hg9
                  have BK9 := Lib.hid (HBK.out.grown hgb9 (fun e => by have := HOl.out _ e; omega))
                  have HF9 : Hid (∀ k, (Value.slice A9 n1.length c9).ownBlock = some k → k ≠ wr.heap.size) := Lib.hid fun k hk => by
                    rcases hf9 with h6 | h6
                    · rw [h6] at hk
                      have := HOl.out _ hk
                      omega
                    · have := h6 _ hk
                      simp at this
                      omega
                  clear ho9 hg9 hgb9 hf9 HBK HOl HO8 HG8
                  have f1 := BK9.out.cell 1
                  have fl := BK9.out.lt
                  simp at f1
                  go_wp2_with fail
                  refine (M2.out _ A9 c9 HO9.out HG9.out).mono ?_
                  rintro e w10 ⟨A10, c10, rfl, ho10, hg10, hgb10, _⟩
                  have HO10 := Lib.hid ho10
                  have HG10 := Lib.hid hg10
                  have BK10 := Lib.hid (BK9.out.grown hgb10 (fun e => HF9.out _ e rfl))
                  clear ho10 hg10 hgb10 f1 fl BK9 HF9 HO9 HG9
                  have f2 := BK10.out.cell 2
                  have fl := BK10.out.lt
                  simp at f2
                  go_wp2_with fail
                  refine (M3.out _ A10 c10 HO10.out HG10.out).mono ?_
                  rintro e w11 ⟨A11, c11, rfl, ho11, hg11⟩
                  have HO11 := Lib.hid ho11
                  have HG11 := Lib.hid hg11
                  clear ho11 hg11
                  go_wp2
                  exact ⟨⟨k2 + 1, A11, c11, by omega, by go_num, rfl, HO11.out, HG11.out⟩, by simp only [intOf]; omega⟩
                · obtain rfl : k2 = cols.length := by omega
                  go_wp2
                  exact ⟨⟨j + 1, A8, c8, by omega, by go_num, by rw [HNx.out], by rw [HNx.out]; exact HO8.out, HG8.out⟩, by simp only [intOf]; omega⟩
            · obtain rfl : j = ts.length := by omega
              have eF : statsB h3 ts ts.length = all := by
                unfold statsB
                rw [List.take_length]
                exact HAll.out
              rw [eF] at HO ⊢
              have HF : PutF w all (.returned (.slice A5 all.length c5)) wr := ⟨A5, c5, rfl, own_le HO.out HGu.out.size, HGu.out.trans HG.out⟩
              have HFh := Lib.hid HF
              clear eF HF
              go_wp2
              go_ret
              exact HFh.out

    · have B1 := (Blok.new w 39 (askCs (.slice Q ts.length jq) false ⟨o0, o1, o2, o3, o4, o5⟩ (.slice P pk.length kp)) _ rfl).alloc (.cells #[.int .i64 0, .int .i64 o0, .int .i64 o1, .int .i64 o2, .int .i64 o3, .int .i64 o4, .int .i64 o5] 3)
      have RS : Row ((w.alloc (.cells (askCs (.slice Q ts.length jq) false ⟨o0, o1, o2, o3, o4, o5⟩ (.slice P pk.length kp)) 39)).alloc (.cells #[.int .i64 0, .int .i64 o0, .int .i64 o1, .int .i64 o2, .int .i64 o3, .int .i64 o4, .int .i64 o5] 3)) (some ⟨w.heap.size + 1, 0, none⟩) (iV sv) := by
        rw [HSev.out]
        exact row_new _ _ _ #[.int .i64 0, .int .i64 o0, .int .i64 o1, .int .i64 o2, .int .i64 o3, .int .i64 o4, .int .i64 o5] (by simp)
      have hgu : Grew w ((w.alloc (.cells (askCs (.slice Q ts.length jq) false ⟨o0, o1, o2, o3, o4, o5⟩ (.slice P pk.length kp)) 39)).alloc (.cells #[.int .i64 0, .int .i64 o0, .int .i64 o1, .int .i64 o2, .int .i64 o3, .int .i64 o4, .int .i64 o5] 3)) := ((Grew.refl w).alloc _).alloc _
      simp only [askCs] at B1 RS hgu
      have HB1 := Lib.hid B1
      have HRS := Lib.hid RS
      have HGu := Lib.hid hgu
      clear B1 RS hgu
      go_enter Try.func26, Try.ntmps26
      go_wp2_with fail
      generalize ((w.alloc (.cells #[.slice Q ts.length jq, .bool false, .int .i64 o0, .int .i64 o1, .int .i64 o2, .int .i64 o3, .int .i64 o4, .int .i64 o5, .slice P pk.length kp] 39)).alloc (.cells #[.int .i64 0, .int .i64 o0, .int .i64 o1, .int .i64 o2, .int .i64 o3, .int .i64 o4, .int .i64 o5] 3)) = u at *
      go_loopw [4, 34] (fun v i wr => BytesAt u (sevenB sv) 7 v i wr) (fun _ i _ => 7 - (intOf i).toNat)
      case atStart => exact ⟨0, none, 0, Nat.zero_le _, rfl, rfl, own_none _ _ _ _, Grew.refl _⟩
      case round =>
        obtain ⟨j, A, c, hj, rfl, rfl, ho, hg⟩ := hrel
        have HO := Lib.hid ho
        have HG := Lib.hid hg
        clear ho hg
        by_cases h : j < 7
        · have hjs : j < sv.length := by have := HSl.out; omega
          obtain ⟨hb, cx⟩ := irow_cell (HRS.out.grew HG.out) hjs rfl
          rw [Nat.zero_add] at cx
          have HNx : Hid (∀ W, W.ownsRow u.heap.size 5 1 (.slice A (sevenB sv j).length c) (sevenB sv j).length (bV (sevenB sv j)) → Grew u W → Calls Try.prog 95 #[.slice A (sevenB sv j).length c, .int .i64 sv[j]] W (PutF u (sevenB sv (j + 1)))) := Lib.hid fun W h1 h2 => (put_next (H7.out j hjs) (H7s.out _ (List.getElem_mem hjs)) (Nat.le_trans (H7l.out j) (by decide)) W A c h1 h2).mono fun _ _ h => h.weak
          generalize sv[j] = x at *
          generalize sevenB sv j = cur at *
          go_wp2_with (go_at_call 95; refine (HNx.out _ HO.out HG.out).mono ?_; rintro e w3 ⟨A3, c3, rfl, ho3, hg3⟩; have HO3 := Lib.hid ho3; have HG3 := Lib.hid hg3; clear ho3 hg3)
          exact ⟨⟨j + 1, A3, c3, by omega, by go_num, rfl, HO3.out, HG3.out⟩, by simp only [intOf]; omega⟩
        · obtain rfl : j = 7 := by omega
          have e7 : sevenB sv 7 = hd1b := HH1.out
          rw [e7] at HO ⊢
          have q8 := (HB1.out.grew HG.out).cell 8
          have hlt8 := (HB1.out.grew HG.out).lt
          simp at q8
          clear e7 HRS H7 H7s H7l HSev HSl h hj
          have HPu : Hid (∀ W, W.ownsRow u.heap.size 5 1 (.slice A hd1b.length c) hd1b.length (bV hd1b) → Grew u W → Calls Try.prog 97 #[.slice A hd1b.length c, .slice P pk.length kp] W (PutF u (hd1b ++ vbs pk))) := Lib.hid fun W h1 h2 => (puts_next rfl K4.out k5 (by omega) W A c P kp h1 h2 (HP.out.grew HGu.out)).mono fun _ _ h => h.weak
          generalize hd1b ++ vbs pk = hd2b at *
          go_wp2_with fail
          refine (HPu.out _ HO.out HG.out).mono ?_
          rintro e w3 ⟨A3, c3, rfl, ho3, hg3⟩
          have HO3 := Lib.hid ho3
          have HG3 := Lib.hid hg3
          have q0 := (HB1.out.grew hg3).cell 0
          have hlt0 := (HB1.out.grew hg3).lt
          simp at q0
          clear ho3 hg3 q8 hlt8 HO HG
          go_wp2_with fail
          refine (put_next HH3.out (small_len (by omega)) (by omega) _ A3 c3 HO3.out HG3.out).mono ?_
          rintro e w4 ⟨A4, c4, rfl, ho4, hg4, _, _⟩
          have HO4 := Lib.hid ho4
          have HG4 := Lib.hid hg4
          have q0 := (HB1.out.grew hg4).cell 0
          have hlt0 := (HB1.out.grew hg4).lt
          simp at q0
          clear ho4 hg4 HO3 HG3
          go_wp2_with fail
          have es0 : statsB h3 ts 0 = h3 := by simp [statsB, putTs]
          have ES0 := Lib.hid es0
          clear es0 q0 hlt0
          go_loopw [4, 54] (fun v i wr => BytesAt u (statsB h3 ts) ts.length v i wr) (fun _ i _ => ts.length - (intOf i).toNat)
          case atStart => exact ⟨0, A4, c4, Nat.zero_le _, rfl, by rw [ES0.out], by rw [ES0.out]; exact HO4.out, HG4.out⟩
          case round =>
            clear HO4 HG4 ES0 HH3
            obtain ⟨j, A5, c5, hj, rfl, rfl, ho, hg⟩ := hrel
            have HO := Lib.hid ho
            have HG := Lib.hid hg
            clear ho hg
            by_cases h : j < ts.length
            · obtain ⟨b, oo, B, kk, rfl, hb, hrr, s0, s1⟩ := statsR_at (HQ.out.grew HGu.out) h
              have s0' := (grew_cell HG.out (o := oo + j * 2) hb).trans s0
              have s1' := (grew_cell HG.out (o := oo + j * 2 + 1) hb).trans s1
              have hbw : b < wr.heap.size := Nat.lt_of_lt_of_le hb HG.out.size
              clear s0 s1
              have HRr := Lib.hid hrr
              have hokT := K1.out ts[j] (List.getElem_mem h)
              have HNx := Lib.hid (statsB_next h3 ts j h)
              have hl0 := HTl.out j
              have hl1 := HTl.out (j + 1)
              have hl0' : (statsB h3 ts j).length ≤ 800000 := hl0
              have hl1' : (statsB h3 ts (j + 1)).length ≤ 800000 := hl1
              clear hl0 hl1 hrr
              generalize ts[j] = x at *
              obtain ⟨rows, cols⟩ := x
              simp only at *
              obtain ⟨t1, t2, t3⟩ := hokT
              have t2' : cols.length ≤ 10000 := t2
              have t1' : small64 rows := t1
              have t3' : ∀ c ∈ cols, okC c := t3
              clear t1 t2 t3
              have HT3 := Lib.hid t3'
              have hv1 := vb_len (zz rows)
              have hv2 := vb_len (zz (cols.length : Int))
              have hle : ∀ k, (colsB ((statsB h3 ts j ++ vb (zz rows)) ++ vb (zz cols.length)) cols k).length ≤ 800000 := fun k => by
                have h1 := colsB_le ((statsB h3 ts j ++ vb (zz rows)) ++ vb (zz cols.length)) cols k
                rw [← HNx.out] at h1
                omega
              have HLe := Lib.hid hle
              clear hle t3'
              have hc0 : colsB ((statsB h3 ts j ++ vb (zz rows)) ++ vb (zz cols.length)) cols 0 = (statsB h3 ts j ++ vb (zz rows)) ++ vb (zz cols.length) := by simp [colsB, putCs]
              have HC0 := Lib.hid hc0
              clear hc0
              have hcl1 : (statsB h3 ts j ++ vb (zz rows)).length ≤ 1000000 := by rw [List.length_append]; omega
              have N1 : Hid (∀ W, W.ownsRow u.heap.size 5 1 (.slice A5 (statsB h3 ts j).length c5) (statsB h3 ts j).length (bV (statsB h3 ts j)) → Grew u W → Calls Try.prog 95 #[.slice A5 (statsB h3 ts j).length c5, .int .i64 rows] W (PutS u W (Value.slice A5 (statsB h3 ts j).length c5).ownBlock (statsB h3 ts j ++ vb (zz rows)))) := Lib.hid fun W h1 h2 => put_next rfl t1' (by omega) W A5 c5 h1 h2
              have N2 : Hid (∀ W A c, W.ownsRow u.heap.size 5 1 (.slice A (statsB h3 ts j ++ vb (zz rows)).length c) (statsB h3 ts j ++ vb (zz rows)).length (bV (statsB h3 ts j ++ vb (zz rows))) → Grew u W → Calls Try.prog 95 #[.slice A (statsB h3 ts j ++ vb (zz rows)).length c, .int .i64 cols.length] W (PutS u W (Value.slice A (statsB h3 ts j ++ vb (zz rows)).length c).ownBlock ((statsB h3 ts j ++ vb (zz rows)) ++ vb (zz cols.length)))) := Lib.hid fun W A c h1 h2 => put_next rfl (small_len (by omega)) hcl1 W A c h1 h2
              generalize ((statsB h3 ts j ++ vb (zz rows)) ++ vb (zz cols.length)) = pre at *
              generalize statsB h3 ts j ++ vb (zz rows) = cur1 at *
              generalize statsB h3 ts j = cur0 at *
              clear hv1 hv2 t1' hcl1
              have BK := Blok.new wr 97 #[.int .i64 rows, .slice B cols.length kk] _ rfl
              have HBK := Lib.hid BK
              have HOl := Lib.hid (own_lt HO.out)
              clear BK
              go_wp2_with fail
              refine (N1.out _ (own_alloc HO.out _) (HG.out.alloc _)).mono ?_
              rintro e w6 ⟨A6, c6, rfl, ho6, hg6, hgb6, hf6⟩
              have HO6 := Lib.hid ho6
              have HG6 := Lib.hid hg6
              have BK6 := Lib.hid (HBK.out.grown hgb6 (fun e => by have := HOl.out _ e; omega))
              have HF6 : Hid (∀ k, (Value.slice A6 cur1.length c6).ownBlock = some k → k ≠ wr.heap.size) := Lib.hid fun k hk => by
                rcases hf6 with h6 | h6
                · rw [h6] at hk
                  have := HOl.out _ hk
                  omega
                · have := h6 _ hk
                  simp at this
                  omega
              clear ho6 hg6 hgb6 hf6 HBK HOl HO HG
              have f1 := BK6.out.cell 1
              have fl := BK6.out.lt
              simp at f1
              go_wp2_with fail
              refine (N2.out _ A6 c6 HO6.out HG6.out).mono ?_
              rintro e w7 ⟨A7, c7, rfl, ho7, hg7, hgb7, _⟩
              have HO7 := Lib.hid ho7
              have HG7 := Lib.hid hg7
              have BK7 := Lib.hid (BK6.out.grown hgb7 (fun e => HF6.out _ e rfl))
              clear ho7 hg7 hgb7 f1 fl BK6 HF6 HO6 HG6
              have f1 := BK7.out.cell 1
              have fl := BK7.out.lt
              simp at f1
              go_wp2_with fail
              clear f1 fl BK7 N1 N2
              obtain ⟨wo, rfl⟩ : ∃ wo : World, wo = wr := ⟨_, rfl⟩
              go_loopw [4, 70] (fun v i wx => BytesAt u (colsB pre cols) cols.length v i wx) (fun _ i _ => cols.length - (intOf i).toNat)
              case atStart => exact ⟨0, A7, c7, Nat.zero_le _, rfl, by rw [HC0.out], by rw [HC0.out]; exact HO7.out, HG7.out⟩
              case round =>
                clear HO7 HG7 HC0
                obtain ⟨k2, A8, c8, hk2, rfl, rfl, ho8, hg8⟩ := hrel
                have HO8 := Lib.hid ho8
                have HG8 := Lib.hid hg8
                clear ho8 hg8
                by_cases hk : k2 < cols.length
                · obtain ⟨bb, o2, M, mk, rfl, hbb, hrm, t0, t1, t2⟩ := colsR_at HRr.out hk
                  have q0 := (grew_cell HG8.out (o := o2 + k2 * 3) hbb).trans t0
                  have q1 := (grew_cell HG8.out (o := o2 + k2 * 3 + 1) hbb).trans t1
                  have q2 := (grew_cell HG8.out (o := o2 + k2 * 3 + 2) hbb).trans t2
                  have hbw2 : bb < wr.heap.size := Nat.lt_of_lt_of_le hbb HG8.out.size
                  have HRM := Lib.hid hrm
                  have hokC := HT3.out cols[k2] (List.getElem_mem hk)
                  have HNc := Lib.hid (colsB_next pre cols k2 hk)
                  have hla : (colsB pre cols k2).length ≤ 800000 := HLe.out k2
                  have hlb : (colsB pre cols (k2 + 1)).length ≤ 800000 := HLe.out (k2 + 1)
                  clear t0 t1 t2 hrm
                  generalize cols[k2] = x at *
                  obtain ⟨xu, xn, xm⟩ := x
                  simp only at *
                  obtain ⟨p1, p2, p3, p4⟩ := hokC
                  have p1' : small64 xu := p1
                  have p2' : small64 xn := p2
                  have p3' : ∀ z ∈ xm, small64 z := p3
                  have p4' : xm.length ≤ 10000 := p4
                  clear p1 p2 p3 p4
                  have hw1 := vb_len (zz xu)
                  have hw2 := vb_len (zz xn)
                  have hlc : (colsB pre cols k2 ++ vb (zz xu)).length ≤ 1000000 := by rw [List.length_append]; omega
                  have hld : ((colsB pre cols k2 ++ vb (zz xu)) ++ vb (zz xn)).length ≤ 800000 := by
                    have h1 := congrArg List.length HNc.out
                    rw [List.length_append] at h1
                    omega
                  have M1 : Hid (∀ W, W.ownsRow u.heap.size 5 1 (.slice A8 (colsB pre cols k2).length c8) (colsB pre cols k2).length (bV (colsB pre cols k2)) → Grew u W → Calls Try.prog 95 #[.slice A8 (colsB pre cols k2).length c8, .int .i64 xu] W (PutS u W (Value.slice A8 (colsB pre cols k2).length c8).ownBlock (colsB pre cols k2 ++ vb (zz xu)))) := Lib.hid fun W h1 h2 => put_next rfl p1' (by omega) W A8 c8 h1 h2
                  have M2 : Hid (∀ W A c, W.ownsRow u.heap.size 5 1 (.slice A (colsB pre cols k2 ++ vb (zz xu)).length c) (colsB pre cols k2 ++ vb (zz xu)).length (bV (colsB pre cols k2 ++ vb (zz xu))) → Grew u W → Calls Try.prog 95 #[.slice A (colsB pre cols k2 ++ vb (zz xu)).length c, .int .i64 xn] W (PutS u W (Value.slice A (colsB pre cols k2 ++ vb (zz xu)).length c).ownBlock ((colsB pre cols k2 ++ vb (zz xu)) ++ vb (zz xn)))) := Lib.hid fun W A c h1 h2 => put_next rfl p2' hlc W A c h1 h2
                  have M3 : Hid (∀ W A c, W.ownsRow u.heap.size 5 1 (.slice A ((colsB pre cols k2 ++ vb (zz xu)) ++ vb (zz xn)).length c) ((colsB pre cols k2 ++ vb (zz xu)) ++ vb (zz xn)).length (bV ((colsB pre cols k2 ++ vb (zz xu)) ++ vb (zz xn))) → Grew u W → Calls Try.prog 97 #[.slice A ((colsB pre cols k2 ++ vb (zz xu)) ++ vb (zz xn)).length c, .slice M xm.length mk] W (PutF u (colsB pre cols (k2 + 1)))) := Lib.hid fun W A c h1 h2 => (puts_next HNc.out p3' p4' hld W A c M mk h1 h2 HRM.out).mono fun _ _ h => h.weak
                  clear p1' p2' p3' hw1 hw2 hlc hld HNc HRM
                  generalize ((colsB pre cols k2 ++ vb (zz xu)) ++ vb (zz xn)) = n2 at *
                  generalize colsB pre cols k2 ++ vb (zz xu) = n1 at *
                  generalize colsB pre cols k2 = n0 at *
                  have HBK := Lib.hid (Blok.new wr 101 #[.int .i64 xu, .int .i64 xn, .slice M xm.length mk] _ rfl)
                  have HOl := Lib.hid (own_lt HO8.out)
                  go_wp2_with fail
                  refine (M1.out _ (own_alloc HO8.out _) (HG8.out.alloc _)).mono ?_
                  rintro e w9 ⟨A9, c9, rfl, ho9, hg9, hgb9, hf9⟩
                  have HO9 := Lib.hid ho9
                  have HG9 := Lib.hid hg9
                  have BK9 := Lib.hid (HBK.out.grown hgb9 (fun e => by have := HOl.out _ e; omega))
                  have HF9 : Hid (∀ k, (Value.slice A9 n1.length c9).ownBlock = some k → k ≠ wr.heap.size) := Lib.hid fun k hk => by
                    rcases hf9 with h6 | h6
                    · rw [h6] at hk
                      have := HOl.out _ hk
                      omega
                    · have := h6 _ hk
                      simp at this
                      omega
                  clear ho9 hg9 hgb9 hf9 HBK HOl HO8 HG8
                  have f1 := BK9.out.cell 1
                  have fl := BK9.out.lt
                  simp at f1
                  go_wp2_with fail
                  refine (M2.out _ A9 c9 HO9.out HG9.out).mono ?_
                  rintro e w10 ⟨A10, c10, rfl, ho10, hg10, hgb10, _⟩
                  have HO10 := Lib.hid ho10
                  have HG10 := Lib.hid hg10
                  have BK10 := Lib.hid (BK9.out.grown hgb10 (fun e => HF9.out _ e rfl))
                  clear ho10 hg10 hgb10 f1 fl BK9 HF9 HO9 HG9
                  have f2 := BK10.out.cell 2
                  have fl := BK10.out.lt
                  simp at f2
                  go_wp2_with fail
                  refine (M3.out _ A10 c10 HO10.out HG10.out).mono ?_
                  rintro e w11 ⟨A11, c11, rfl, ho11, hg11⟩
                  have HO11 := Lib.hid ho11
                  have HG11 := Lib.hid hg11
                  clear ho11 hg11
                  go_wp2
                  exact ⟨⟨k2 + 1, A11, c11, by omega, by go_num, rfl, HO11.out, HG11.out⟩, by simp only [intOf]; omega⟩
                · obtain rfl : k2 = cols.length := by omega
                  go_wp2
                  exact ⟨⟨j + 1, A8, c8, by omega, by go_num, by rw [HNx.out], by rw [HNx.out]; exact HO8.out, HG8.out⟩, by simp only [intOf]; omega⟩
            · obtain rfl : j = ts.length := by omega
              have eF : statsB h3 ts ts.length = all := by
                unfold statsB
                rw [List.take_length]
                exact HAll.out
              rw [eF] at HO ⊢
              have HF : PutF w all (.returned (.slice A5 all.length c5)) wr := ⟨A5, c5, rfl, own_le HO.out HGu.out.size, HGu.out.trans HG.out⟩
              have HFh := Lib.hid HF
              clear eF HF
              go_wp2
              go_ret
              exact HFh.out

  cases f
  · exact fin 0 rfl (Or.inr ⟨rfl, rfl⟩)
  · exact fin 1 rfl (Or.inl ⟨rfl, rfl⟩)
end Go.Proofs.Ytcokhgomibimcaa
