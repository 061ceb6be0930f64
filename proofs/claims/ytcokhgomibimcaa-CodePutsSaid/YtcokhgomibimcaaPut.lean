/- Layer 39: numbers put behind bytes: and no block but that of the bytes is touched. Condition: not more than a million bytes. -/
import Derived.Test.YtcokhgomibimcaaCode3
namespace Go.Proofs.Ytcokhgomibimcaa
open Go.RowKit
attribute [local go_sem] more_cell more_frozen more_more more_setCell more_of_drew more_of_drewN lt_more le_more past_cell past_cell2 past_frozen past_frozen2 past_setCell past_setCell2 mid_cell mid_frozen mid_setCell
attribute [local go_sem ↓] Go.wp_at_zero Go.wp_at_succ

/-- The slice lies where the first one lay, or above what was there. -/
def Fresh (w0 : World) (r : Option Nat) (v : Value) : Prop := v.ownBlock = r ∨ ∀ k, v.ownBlock = some k → w0.heap.size ≤ k
theorem grownBy_trans {a b c : World} {r s : Option Nat} (h : a.grownBy b r) (k : b.grownBy c s) (hs : s = r ∨ ∀ i, s = some i → a.heap.size ≤ i) : a.grownBy c r := by
  refine ⟨k.os.trans h.os, k.tape.trans h.tape, k.output.trans h.output, Nat.le_trans h.size k.size, fun i hi hn => ?_⟩
  rw [k.block i (Nat.lt_of_lt_of_le hi h.size) (fun e => ?_)]
  · exact h.block i hi hn
  · rcases hs with hs | hs
    · exact hn (e.trans hs)
    · have := hs i e.symm
      omega
theorem grownBy_alloc {a b : World} {r : Option Nat} (h : a.grownBy b r) (o : Obj) : a.grownBy (b.alloc o) r :=
  grownBy_trans (s := r) h ⟨rfl, rfl, rfl, by simp, fun i hi _ => ((Grew.refl b).alloc o).below.block i hi⟩ (Or.inl rfl)
theorem fresh_step {w0 wr w2 : World} {o : Obj} {r : Option Nat} {v v2 : Value} (h : w0.grownBy wr r) (hf : Fresh w0 r v) (hg : (wr.alloc o).grownBy w2 v.ownBlock) (hor : v2.ownBlock = v.ownBlock ∨ v2.ownBlock = some (wr.heap.size + 1)) : w0.grownBy w2 r ∧ Fresh w0 r v2 := by
  refine ⟨grownBy_trans (grownBy_alloc h o) hg hf, ?_⟩
  rcases hor with hor | hor
  · unfold Fresh
    rw [hor]
    exact hf
  · refine Or.inr fun k hk => ?_
    rw [hor] at hk
    injection hk with hk
    have := h.size
    omega
def PutS (u w0 : World) (r : Option Nat) (bs : List Nat) (e : Ending) (w' : World) : Prop := ∃ A c, e = .returned (.slice A bs.length c) ∧ w'.ownsRow u.heap.size 5 1 (.slice A bs.length c) bs.length (bV bs) ∧ Grew u w' ∧ w0.grownBy w' r ∧ Fresh w0 r (.slice A bs.length c)
/-- While bytes are put. -/
def PutAtS (u w0 : World) (r : Option Nat) (all bs : List Nat) (v x : Value) (wr : World) : Prop :=
  ∃ (done : List Nat) (z : Nat) (A : Option Addr) (c : Nat), v = .slice A done.length c ∧ x = .int .u64 (z : Int) ∧ wr.ownsRow u.heap.size 5 1 (.slice A done.length c) done.length (bV done) ∧ Grew u wr ∧ all = done ++ vb z ∧ z < 18446744073709551616 ∧ done.length + (vb z).length ≤ bs.length + 10 ∧ w0.grownBy wr r ∧ Fresh w0 r (.slice A done.length c)
set_option maxRecDepth 100000 in
theorem put_strong (u : World) (bs : List Nat) (A : Option Addr) (c : Nat) (n : Int) (h1 : -9223372036854775808 ≤ n) (h2 : n ≤ 9223372036854775807) (hl : bs.length ≤ 1000000) (w : World) (ho : w.ownsRow u.heap.size 5 1 (.slice A bs.length c) bs.length (bV bs)) (hg : Grew u w) :
    Calls Try.prog 95 #[.slice A bs.length c, .int .i64 n] w (PutS u w (Value.slice A bs.length c).ownBlock (bs ++ vb (zz n))) := by
  have HO := Lib.hid ho
  have HG := Lib.hid hg
  clear ho hg
  obtain ⟨r0, hr0⟩ : ∃ r0, (Value.slice A bs.length c).ownBlock = r0 := ⟨_, rfl⟩
  have HR0 : Hid (Fresh w r0 (.slice A bs.length c)) := Lib.hid (Or.inl hr0)
  rw [hr0]
  clear hr0
  obtain ⟨all, hall⟩ : ∃ all, bs ++ vb (zz n) = all := ⟨_, rfl⟩
  rw [hall]
  have HAll := Lib.hid hall
  clear hall
  go_enter Try.func95, Try.ntmps95
  go_upto_region 2 with fail
  rw [zig n h1 h2]
  have HZ := Lib.hid (zz_lt n h1 h2)
  generalize zz n = z0 at *
  go_wp2
  go_loopw [0, 5] (fun v x wr => PutAtS u w r0 all bs v x wr) (fun _ x _ => (intOf x).toNat)
  case atStart => exact ⟨bs, z0, A, c, rfl, rfl, HO.out, HG.out, HAll.out.symm, HZ.out, by have := vb_len z0; omega, World.grownBy.refl _ _, HR0.out⟩
  case round =>
    obtain ⟨done, z, A', c', rfl, rfl, ho, hg, he, hz, hlen, hgr, hfr⟩ := hrel
    have HGr := Lib.hid hgr
    have HFr := Lib.hid hfr
    have HO := Lib.hid ho
    have HG := Lib.hid hg
    have HE := Lib.hid he
    have HZ := Lib.hid hz
    have hd : done.length ≤ 1000010 := by omega
    have HL := Lib.hid hlen
    clear ho hg he hz hlen hgr hfr
    by_cases hb : z < 128
    · have hbi : (z : Int) < 128 := by omega
      have ew : IntKind.u8.wrap (z : Int) = (z : Int) := by rw [wrapb]; omega
      have HV := Lib.hid (vb_small z hb)
      go_wp2_with (at_builtin; refine wpList_app rfl (.tmp 23) (.tmp 26) 22 5 rfl u (.int .u8 0) 1 Try.underlying22 infoB rfl (by decide) _ done.length (bV done) rfl (own_alloc HO.out _) _ 1 1 [.int .u8 (z : Int)] rfl rfl (row_one _ _ _ _ rfl) (by simp; rfl) (by omega) (HG.out.alloc _) ?_)
      intro A2 c2 w2 ho2 _ hg2 hgb2 hor2
      have HS2 : Hid (w.grownBy w2 r0 ∧ Fresh w r0 (.slice A2 (done.length + 1) c2)) := Lib.hid (fresh_step HGr.out HFr.out hgb2 hor2)
      clear hgb2 hor2
      have HF : Hid (PutS u w r0 all (.returned (.slice A2 (done.length + 1) c2)) w2) := Lib.hid (by
        have e1 : all = done ++ [z] := by rw [HE.out, HV.out]
        have e2 : done.length + 1 = all.length := by rw [e1]; simp
        refine ⟨A2, c2, by rw [e2], ?_, hg2, HS2.out.1, by rw [← e2]; exact HS2.out.2⟩
        rw [← e2, e1, bV_append]
        exact ho2)
      clear ho2 hg2
      go_wp2
      go_ret
      exact HF.out
    · have hbi : 128 ≤ (z : Int) := by omega
      obtain ⟨y, hy⟩ : ∃ y, z % 128 + 128 = y := ⟨_, rfl⟩
      obtain ⟨q, hq⟩ : ∃ q, z / 128 = q := ⟨_, rfl⟩
      have ey : bits .or .u8 ((z : Int) % 256) 128 = (y : Int) := by
        rw [show (z : Int) % 256 = ((z % 256 : Nat) : Int) by omega, show (128 : Int) = ((128 : Nat) : Int) from rfl, u8_or_nat (z % 256) 128 (by omega) (by decide), or128 (z % 256) (by omega)]
        omega
      have eq1 : (z : Int) / 128 = (q : Int) := by omega
      have HV := Lib.hid (vb_big z hb HZ.out)
      have hqz : q < z := by omega
      go_wp2_with (at_builtin; refine wpList_app rfl (.tmp 15) (.tmp 19) 22 5 rfl u (.int .u8 0) 1 Try.underlying22 infoB rfl (by decide) _ done.length (bV done) rfl (own_alloc HO.out _) _ 1 1 [.int .u8 (y : Int)] rfl rfl (row_one _ _ _ _ rfl) (by simp; rfl) (by omega) (HG.out.alloc _) ?_)
      intro A2 c2 w2 ho2 _ hg2 hgb2 hor2
      have HS2 : Hid (w.grownBy w2 r0 ∧ Fresh w r0 (.slice A2 (done.length + 1) c2)) := Lib.hid (fresh_step HGr.out HFr.out hgb2 hor2)
      clear hgb2 hor2
      have HF : Hid (PutAtS u w r0 all bs (.slice A2 (done.length + 1) c2) (.int .u64 (q : Int)) w2) := Lib.hid (by
        have hv := HV.out
        rw [hy, hq] at hv
        have hl2 := HL.out
        rw [hv, List.length_cons] at hl2
        refine ⟨done ++ [y], q, A2, c2, by simp, rfl, ?_, hg2, by rw [HE.out, hv]; simp, by have := HZ.out; omega, by rw [List.length_append]; simp; omega, HS2.out.1, by rw [List.length_append]; exact HS2.out.2⟩
        rw [bV_append, List.length_append]
        exact ho2)
      clear ho2 hg2 hq hy
      go_wp2
      refine ⟨HF.out, ?_⟩
      simp only [intOf]
      omega
theorem fresh_join {w0 wr w2 : World} {r : Option Nat} {v v2 : Value} (h : w0.grownBy wr r) (hf : Fresh w0 r v) (hg : wr.grownBy w2 v.ownBlock) (hf2 : Fresh wr v.ownBlock v2) : w0.grownBy w2 r ∧ Fresh w0 r v2 := by
  refine ⟨grownBy_trans h hg hf, ?_⟩
  rcases hf2 with hf2 | hf2
  · unfold Fresh
    rw [hf2]
    exact hf
  · exact Or.inr fun k hk => Nat.le_trans h.size (hf2 k hk)
def PutsAtS (u w0 : World) (r : Option Nat) (bs : List Nat) (l : List Int) (v i : Value) (wr : World) : Prop :=
  ∃ (j : Nat) (A : Option Addr) (c : Nat), j ≤ l.length ∧ i = .int .i64 j ∧ v = .slice A (bs ++ vbT l j).length c ∧ wr.ownsRow u.heap.size 5 1 (.slice A (bs ++ vbT l j).length c) (bs ++ vbT l j).length (bV (bs ++ vbT l j)) ∧ Grew u wr ∧ w0.grownBy wr r ∧ Fresh w0 r (.slice A (bs ++ vbT l j).length c)
set_option maxRecDepth 100000 in
theorem puts_strong (u : World) (bs : List Nat) (A : Option Addr) (c : Nat) (l : List Int) (L : Option Addr) (d : Nat) (hl : bs.length ≤ 800000) (hll : l.length ≤ 10000) (hs : smallI l) (w : World) (ho : w.ownsRow u.heap.size 5 1 (.slice A bs.length c) bs.length (bV bs)) (hg : Grew u w) (hr : NRow u L l) :
    Calls Try.prog 97 #[.slice A bs.length c, .slice L l.length d] w (PutS u w (Value.slice A bs.length c).ownBlock (bs ++ vbs l)) := by
  obtain ⟨r0, hr0⟩ : ∃ r0, (Value.slice A bs.length c).ownBlock = r0 := ⟨_, rfl⟩
  have HR0 : Hid (Fresh w r0 (.slice A bs.length c)) := Lib.hid (Or.inl hr0)
  rw [hr0]
  have HO := Lib.hid ho
  have HG := Lib.hid hg
  have HR := Lib.hid hr
  have HS := Lib.hid hs
  clear ho hg hr hs
  go_enter Try.func97, Try.ntmps97
  go_wp2_with fail
  refine (put_strong u bs A c l.length (by omega) (by omega) (by omega) _ HO.out HG.out).mono ?_
  rintro e w1 ⟨A1, c1, rfl, ho1, hg1, hb1, hf1⟩
  rw [hr0] at hb1 hf1
  have HB1 := Lib.hid hb1
  have HF1 := Lib.hid hf1
  clear hb1 hf1 hr0
  have HO1 := Lib.hid ho1
  have HG1 := Lib.hid hg1
  clear ho1 hg1
  go_wp2_with fail
  go_loopw [0, 13] (fun v i wr => PutsAtS u w r0 bs l v i wr) (fun _ i _ => l.length - (intOf i).toNat)
  case atStart => exact ⟨0, A1, c1, Nat.zero_le _, rfl, by rw [vbT_zero, List.length_append], by rw [vbT_zero]; exact HO1.out, HG1.out, HB1.out, by rw [vbT_zero, List.length_append] at *; exact HF1.out⟩
  case round =>
    obtain ⟨j, A2, c2, hj, rfl, rfl, ho, hg, hgb, hfr⟩ := hrel
    have HGb := Lib.hid hgb
    have HFr := Lib.hid hfr
    clear hgb hfr HR0 HB1 HF1
    have HO := Lib.hid ho
    have HG := Lib.hid hg
    clear ho hg
    have hlen : (bs ++ vbT l j).length ≤ 1000000 := by rw [List.length_append]; have := vbT_len l j hj; omega
    by_cases h : j < l.length
    · obtain ⟨b, o, rfl⟩ := nrow_some HR.out h
      obtain ⟨hb, c0⟩ := nrow_cell (HR.out.grew HG.out) h rfl
      have HT := Lib.hid (vbT_succ l j h)
      have hx := HS.out l[j] (List.getElem_mem h)
      generalize l[j] = x at *
      have HP : Hid (∀ W, W.ownsRow u.heap.size 5 1 (.slice A2 (bs ++ vbT l j).length c2) (bs ++ vbT l j).length (bV (bs ++ vbT l j)) → Grew u W → Calls Try.prog 95 #[.slice A2 (bs ++ vbT l j).length c2, .int .i64 x] W (PutS u W (Value.slice A2 (bs ++ vbT l j).length c2).ownBlock (bs ++ vbT l (j + 1)))) := Lib.hid fun W h3 h4 => by
        rw [HT.out, ← List.append_assoc]
        exact put_strong u _ A2 c2 x hx.1 hx.2 hlen W h3 h4
      clear hx
      generalize bs ++ vbT l j = cur at *
      go_wp2_with (go_at_call 95; refine (HP.out _ HO.out HG.out).mono ?_; rintro e w3 ⟨A3, c3, rfl, ho3, hg3, hb3, hf3⟩; have HO3 := Lib.hid ho3; have HG3 := Lib.hid hg3; have HS3 := Lib.hid (fresh_join HGb.out HFr.out hb3 hf3); clear ho3 hg3 hb3 hf3)
      refine ⟨⟨j + 1, A3, c3, by omega, by go_num, by rw [List.length_append], HO3.out, HG3.out, HS3.out.1, HS3.out.2⟩, by simp only [intOf]; omega⟩
    · obtain rfl : j = l.length := by omega
      have HF : Hid (PutS u w r0 (bs ++ vbs l) (.returned (.slice A2 (bs ++ vbT l l.length).length c2)) wr) := Lib.hid (by rw [← vbT_all l]; exact ⟨A2, c2, rfl, HO.out, HG.out, HGb.out, HFr.out⟩)
      generalize bs ++ vbT l l.length = cur at *
      go_wp2
      go_ret
      exact HF.out
end Go.Proofs.Ytcokhgomibimcaa
