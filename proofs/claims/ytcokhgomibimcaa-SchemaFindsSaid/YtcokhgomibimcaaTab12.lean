/- Layer 5: Col, Size, the same tables. Condition: tables that lie in memory that is there. -/
import Derived.Test.YtcokhgomibimcaaTab11
namespace Go.Proofs.Ytcokhgomibimcaa
open Go.RowKit
attribute [local go_sem] more_cell more_frozen more_more more_setCell more_of_drew more_of_drewN lt_more le_more past_cell past_cell2 past_frozen past_frozen2 past_setCell past_setCell2 mid_cell mid_frozen mid_setCell
attribute [local go_sem ↓] Go.wp_at_zero Go.wp_at_succ

/-- The place of the first column of a name, and whether there is one. -/
def colV (z : Int) : Value := if z < 0 then .tuple #[.int .i64 0, .bool false] else .tuple #[.int .i64 z, .bool true]
set_option maxHeartbeats 400000 in
theorem col_any (x : Tb) (C B : Option Addr) (k2 j2 : Nat) (hc : x.cols.length ≤ 1000000) (n : ByteArray) (z : Int) (hz : Idx (x.cols.map Cl.name) n z) (w : World) (ra : ClsR (PRow w) C x.cols) :
    Gives Try.prog 60 #[tbV x C k2 B j2, .string n] w (colV z) := by
  obtain ⟨name, cols, rows⟩ := x
  simp only at *
  have HC : Hid (∀ W, Grew w W → Gives Try.prog 128 #[.slice C cols.length k2, .string n] W (.int .i64 z)) := Lib.hid fun W hW => IdxF.gives (column_any cols _ rfl (by unfold maxLen; omega) n C k2 W (ra.grew hW)) hz
  clear ra hz
  unfold Gives tbV
  simp only
  by_cases h : z < 0
  · have hV : colV z = .tuple #[.int .i64 0, .bool false] := if_pos h
    rw [hV]
    clear hV
    go_enter Try.func60, Try.ntmps60
    go_wp2_with (first | (go_at_call 128; (with_reducible refine (HC.out _ ((Grew.refl w).alloc _)).grows.mono ?_); rintro e w2 ⟨rfl, hg2⟩; have HG2 : Hid (Grew w w2) := Lib.hid (((Grew.refl w).alloc _).trans hg2); clear hg2))
    go_ret2
    exact ⟨rfl, HG2.out⟩
  · have hV : colV z = .tuple #[.int .i64 z, .bool true] := if_neg h
    rw [hV]
    clear hV
    have h' : 0 ≤ z := by omega
    go_enter Try.func60, Try.ntmps60
    go_wp2_with (first | (go_at_call 128; (with_reducible refine (HC.out _ ((Grew.refl w).alloc _)).grows.mono ?_); rintro e w2 ⟨rfl, hg2⟩; have HG2 : Hid (Grew w w2) := Lib.hid (((Grew.refl w).alloc _).trans hg2); clear hg2))
    go_ret2
    exact ⟨rfl, HG2.out⟩
set_option maxHeartbeats 1000000 in
theorem rcol_any (x : Tb) (C B : Option Addr) (k2 j2 : Nat) (hc : x.cols.length ≤ 1000000) (n : ByteArray) (z : Int) (hz : Idx (x.cols.map Cl.name) n z) (w : World) (ra : ClsR (PRow w) C x.cols) :
    Gives Try.prog 61 #[tbV x C k2 B j2, .string n] w (colV z) := by
  obtain ⟨name, cols, rows⟩ := x
  simp only at *
  have HZ := Lib.hid hz
  unfold Gives tbV
  simp only
  have HR : Hid (ClsR (PRow (w.alloc (.cells #[.string name, .slice C cols.length k2, .slice B rows.length j2] 80))) C cols) := Lib.hid (ra.grew ((Grew.refl w).alloc _))
  have hbk := Blok.new w 80 #[.string name, .slice C cols.length k2, .slice B rows.length j2] _ rfl
  have hgr := (Grew.refl w).alloc (.cells #[.string name, .slice C cols.length k2, .slice B rows.length j2] 80)
  obtain ⟨V, hV⟩ : ∃ V, colV z = V := ⟨_, rfl⟩
  have HV := Lib.hid hV
  rw [hV]
  clear hV hz ra
  go_enter Try.func61, Try.ntmps61
  go_wp2
  generalize hW : w.alloc (.cells #[.string name, .slice C cols.length k2, .slice B rows.length j2] 80) = W at *
  have HG := Lib.hid hgr
  have d1 := hbk.cell 1
  have dl := hbk.lt
  simp at d1
  clear hgr hbk hW
  go_loop [6] (fun i => ∃ j : Nat, j ≤ cols.length ∧ i = .int .i64 j ∧ ∀ k (hk : k < cols.length), k < j → ¬ cols[k].name = n) (fun i => cols.length - (intOf i).toNat)
  case atStart => exact ⟨0, Nat.zero_le _, rfl, fun k hk h => absurd h (by omega)⟩
  case round =>
    obtain ⟨j, hj, rfl, hk⟩ := hrel
    have HK := Lib.hid hk
    clear hk
    by_cases h : j < cols.length
    · obtain ⟨b, o, rfl, hb, c0, c1⟩ := clsR_at HR.out h
      obtain ⟨t, ht⟩ : ∃ t, (cols[j].name.toList == n.toList) = t := ⟨_, rfl⟩
      have HT := Lib.hid ht
      have HY : Hid (cols[j].name = n → V = .tuple #[.int .i64 j, .bool true]) := Lib.hid fun he => by
        have hi : Idx (cols.map Cl.name) n (j : Int) := Or.inl ⟨j, rfl, by simpa using h, by simpa using he, fun i hi => by simpa using HK.out i (by omega) hi⟩
        rw [← HV.out, idx_unique HZ.out hi]
        exact if_neg (by omega)
      have HN : Hid (¬ cols[j].name = n → ∀ k (hk : k < cols.length), k < j + 1 → ¬ cols[k].name = n) := Lib.hid fun he k hk hkj => by
        rcases Nat.lt_or_ge k j with h3 | h3
        · exact HK.out k hk h3
        · have : k = j := by omega
          subst this; exact he
      clear HK
      generalize cols[j] = c at *
      cases t
      · go_wp2
        exact ⟨⟨j + 1, by omega, by go_num, HN.out fun he => by have := bytes_toList.2 he; rw [HT.out] at this; cases this⟩, by simp only [intOf]; omega⟩
      · obtain rfl := HY.out (bytes_toList.1 HT.out)
        go_wp2
        go_ret2
        exact ⟨rfl, HG.out⟩
    · obtain rfl : j = cols.length := by omega
      have hi : Idx (cols.map Cl.name) n (-1) := Or.inr ⟨rfl, fun x hx => by
        obtain ⟨i, hi, rfl⟩ := List.getElem_of_mem hx
        have hi' : i < cols.length := by simpa using hi
        simpa using HK.out i hi' hi'⟩
      have hVV : V = .tuple #[.int .i64 0, .bool false] := by
        rw [← HV.out, idx_unique HZ.out hi]
        exact if_pos (by omega)
      subst hVV
      go_wp2
      go_ret2
      exact ⟨rfl, HG.out⟩
def sizeT (l : List Tb) : Nat := (l.map fun t => t.rows.length).sum
theorem sizeT_take {l : List Tb} {k : Nat} (h : k < l.length) : sizeT (l.take (k + 1)) = sizeT (l.take k) + l[k].rows.length := by
  unfold sizeT
  rw [List.take_succ_eq_append_getElem h, List.map_append, List.sum_append]
  simp
theorem sizeT_le (l : List Tb) (j : Nat) : sizeT (l.take j) ≤ sizeT l := by
  have : sizeT l = sizeT (l.take j) + sizeT (l.drop j) := by
    unfold sizeT
    rw [← List.sum_append, ← List.map_append, List.take_append_drop]
  omega
def SizeAt (w : World) (l : List Tb) (n i : Value) (wr : World) : Prop := ∃ j m : Nat, j ≤ l.length ∧ i = .int .i64 j ∧ n = .int .i64 m ∧ m = sizeT (l.take j) ∧ Grew w wr
set_option maxHeartbeats 1000000 in
theorem size_any (l : List Tb) (m : Nat) (hm : l.length = m) (hm1 : m ≤ 1000000) (hs : sizeT l ≤ 1000000) (A : Option Addr) (k : Nat) (w : World) (ra : TbsR (PRow w) A l) :
    Gives Try.prog 65 #[.slice A m k] w (.int .i64 (sizeT l)) := by
  have RA := Lib.hid ra
  have HM := Lib.hid hm
  have HL := Lib.hid (fun j => sizeT_le l j)
  obtain ⟨s, hss⟩ : ∃ s, sizeT l = s := ⟨_, rfl⟩
  have HS := Lib.hid hss
  rw [hss] at hs ⊢
  clear ra hm hss
  unfold Gives
  go_enter Try.func65, Try.ntmps65
  go_wp2
  go_loopw [3, 8] (fun n i wr => SizeAt w l n i wr) (fun _ i _ => m - (intOf i).toNat)
  case atStart => exact ⟨0, 0, Nat.zero_le _, rfl, rfl, by simp [sizeT], Grew.refl w⟩
  case round =>
    obtain ⟨j, x, hj, rfl, rfl, hx, hg⟩ := hrel
    rw [HM.out] at hj
    have HG := Lib.hid hg
    have hx1 := HL.out j
    rw [HS.out, ← hx] at hx1
    have HX := Lib.hid hx
    clear hx hg
    by_cases h : j < m
    · have h1 : j < l.length := by rw [HM.out]; exact h
      obtain ⟨b, o, C, k2, B, j2, rfl, _, _, _, _, ⟨hb, a0, a1, a2⟩⟩ := tbsR_at (RA.out.grew HG.out) h1
      have hx2 := HL.out (j + 1)
      rw [HS.out, sizeT_take h1, ← HX.out] at hx2
      have HT := Lib.hid (sizeT_take h1)
      generalize l[j] = t at *
      go_wp2
      exact ⟨⟨j + 1, x + t.rows.length, by rw [HM.out]; omega, by go_num, by go_num, by rw [HT.out, HX.out], HG.out.alloc _⟩, by simp only [intOf]; omega⟩
    · obtain rfl : j = m := by omega
      obtain rfl : x = s := by
        have := HX.out
        rwa [List.take_of_length_le (Nat.le_of_eq HM.out), HS.out] at this
      clear HX
      go_wp2
      go_ret
      exact ⟨rfl, HG.out⟩
def SameTAt (w : World) (cs cs' : Array Value) (n : Nat) (i : Value) (wr : World) : Prop := ∃ j : Nat, j ≤ n ∧ i = .int .i64 j ∧ Grew w wr ∧ Blok wr w.heap.size 80 cs ∧ Blok wr (w.heap.size + 1) 80 cs'
set_option maxHeartbeats 1000000 in
set_option maxRecDepth 100000 in
theorem rsametable_eq (x : Tb) (C B C' B' : Option Addr) (k j k' j' : Nat) (hc : x.cols.length ≤ 1000000) (hr : RwsOk x.rows) (w : World) (ra : ClsR (PRow w) C x.cols) (rb : ClsR (PRow w) C' x.cols) (sa : RwsR (PRow w) B x.rows) (sb : RwsR (PRow w) B' x.rows) :
    Gives Try.prog 63 #[tbV x C k B j, tbV x C' k' B' j'] w (.bool true) := by
  obtain ⟨name, cols, rows⟩ := x
  simp only at *
  have RA := Lib.hid ra
  have RB := Lib.hid rb
  have HS : Hid (∀ W, Grew w W → Gives Try.prog 129 #[.slice B rows.length j, .slice B' rows.length j'] W (.bool true)) := Lib.hid fun W hW => rsameRows_any rows rows B B' j j' hr true (by simp) W (sa.grew hW) (sb.grew hW)
  clear ra rb sa sb hr
  unfold Gives tbV
  simp only
  have hb1 := (Blok.new w 80 #[.string name, .slice C cols.length k, .slice B rows.length j] _ rfl).alloc (.cells #[.string name, .slice C' cols.length k', .slice B' rows.length j'] 80)
  have hb2 := Blok.new (w.alloc (.cells #[.string name, .slice C cols.length k, .slice B rows.length j] 80)) 80 #[.string name, .slice C' cols.length k', .slice B' rows.length j'] (w.heap.size + 1) (by simp)
  have HB1 := Lib.hid hb1
  have HB2 := Lib.hid hb2
  clear hb1 hb2
  have e0 : (name.toList == name.toList) = true := beq_self_eq_true _
  go_enter Try.func63, Try.ntmps63
  go_wp2_with fail
  refine (HS.out _ (((Grew.refl w).alloc _).alloc _)).grows.mono ?_
  rintro e w2 ⟨rfl, hg2⟩
  have HG2 : Hid (Grew w w2) := Lib.hid ((((Grew.refl w).alloc _).alloc _).trans hg2)
  have HB3 := Lib.hid (HB1.out.grew hg2)
  have HB4 := Lib.hid (HB2.out.grew hg2)
  clear hg2 HB1 HB2 HS
  go_wp2
  go_loopw [5] (fun i wr => SameTAt w #[.string name, .slice C cols.length k, .slice B rows.length j] #[.string name, .slice C' cols.length k', .slice B' rows.length j'] cols.length i wr) (fun i _ => cols.length - (intOf i).toNat)
  case atStart => exact ⟨0, Nat.zero_le _, rfl, HG2.out, HB3.out, HB4.out⟩
  case round =>
    obtain ⟨q, hq, rfl, hg, hb5, hb6⟩ := hrel
    have HG := Lib.hid hg
    have HB5 := Lib.hid hb5
    have HB6 := Lib.hid hb6
    have d1 := hb5.cell 1
    have dl := hb5.lt
    have f1 := hb6.cell 1
    have fl := hb6.lt
    simp at d1 f1
    clear hg hb5 hb6 HB3 HB4 HG2
    by_cases h : q < cols.length
    · obtain ⟨b, o, rfl, hb, c0, c1⟩ := clsR_at (RA.out.grew HG.out) h
      obtain ⟨b', o', rfl, hb', c0', c1'⟩ := clsR_at (RB.out.grew HG.out) h
      generalize cols[q] = c at *
      have e1 : (c.name.toList == c.name.toList) = true := beq_self_eq_true _
      go_upto_region 6 with fail
      refine wp_region_more (by kernel_rfl) (by kernel_rfl) ?_
      repeat (go_big_quiet_step ((fail)))
      refine wpQuiet_nil ?_
      rintro _ ⟨z, rfl⟩
      go_wp2
      exact ⟨⟨q + 1, by omega, by go_num, HG.out.more z, HB5.out.more z, HB6.out.more z⟩, by simp only [intOf]; omega⟩
    · obtain rfl : q = cols.length := by omega
      go_wp2
      go_ret
      exact ⟨rfl, HG.out⟩
end Go.Proofs.Ytcokhgomibimcaa
