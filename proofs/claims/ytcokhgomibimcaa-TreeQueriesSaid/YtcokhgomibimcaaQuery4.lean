/- Layer 8: what queries are more than is asked. Condition: a query that lies in memory that is there. -/
import Derived.Test.YtcokhgomibimcaaQuery3
namespace Go.Proofs.Ytcokhgomibimcaa
open Go.RowKit
attribute [local go_sem] more_cell more_frozen more_more more_setCell more_of_drew more_of_drewN lt_more le_more past_cell past_cell2 past_frozen past_frozen2 past_setCell past_setCell2 mid_cell mid_frozen mid_setCell
attribute [local go_sem ↓] Go.wp_at_zero Go.wp_at_succ

/-- No more than is asked of queries. -/
structure goodQ (q : Qy) : Prop where
  items : q.items.length ≤ 20
  src : q.src.length ≤ 12
  group : q.group.length ≤ 12
  wh : q.wh.nodes ≤ 200
  item : ∀ x ∈ q.items, x.nodes ≤ 200
  one : ∀ x ∈ q.group, x.nodes ≤ 200
  on : ∀ x ∈ q.src, x.on.nodes ≤ 200
/-- The cells of a query. -/
def qyC (it : List Ex) (sr : List Fr) (wh : Ex) (gr : List Ex) (A : Option Addr) (k : Nat) (B : Option Addr) (j : Nat) (C : Option Addr) (c : Nat) (D : Option Addr) (d : Nat) : Array Value :=
  #[.slice A it.length k, .slice B sr.length j, .int .i64 wh.op, .string wh.tab, .string wh.name, .int .i64 wh.t, .int .i64 wh.c, .int .i64 wh.vk, .int .i64 wh.vi, .string wh.vs, .slice C wh.l.length c, .slice D gr.length d]
structure At12 (w : World) (g : Nat) (x : Ex) (v0 v1 v10 v11 : Value) : Prop where
  lt : g < w.heap.size
  a0 : w.cell? ⟨g, 0, none⟩ = some v0
  a1 : w.cell? ⟨g, 1, none⟩ = some v1
  a2 : w.cell? ⟨g, 2, none⟩ = some (.int .i64 x.op)
  a3 : w.cell? ⟨g, 3, none⟩ = some (.string x.tab)
  a4 : w.cell? ⟨g, 4, none⟩ = some (.string x.name)
  a5 : w.cell? ⟨g, 5, none⟩ = some (.int .i64 x.t)
  a6 : w.cell? ⟨g, 6, none⟩ = some (.int .i64 x.c)
  a7 : w.cell? ⟨g, 7, none⟩ = some (.int .i64 x.vk)
  a8 : w.cell? ⟨g, 8, none⟩ = some (.int .i64 x.vi)
  a9 : w.cell? ⟨g, 9, none⟩ = some (.string x.vs)
  a10 : w.cell? ⟨g, 10, none⟩ = some v10
  a11 : w.cell? ⟨g, 11, none⟩ = some v11
theorem box12 {w : World} {g : Nat} {x : Ex} {v0 v1 v10 v11 : Value} (h : Blok w g 66 #[v0, v1, .int .i64 x.op, .string x.tab, .string x.name, .int .i64 x.t, .int .i64 x.c, .int .i64 x.vk, .int .i64 x.vi, .string x.vs, v10, v11]) : At12 w g x v0 v1 v10 v11 :=
  ⟨h.lt, h.cell 0, h.cell 1, h.cell 2, h.cell 3, h.cell 4, h.cell 5, h.cell 6, h.cell 7, h.cell 8, h.cell 9, h.cell 10, h.cell 11⟩
def smallE (l : List Ex) (j : Nat) : Prop := ∀ x ∈ l.take j, x.nodes ≤ 200
def smallF (l : List Fr) (j : Nat) : Prop := ∀ x ∈ l.take j, x.on.nodes ≤ 200
theorem smallE_all {l : List Ex} (h : smallE l l.length) : ∀ x ∈ l, x.nodes ≤ 200 := by unfold smallE at h; rwa [List.take_length] at h
theorem smallF_all {l : List Fr} (h : smallF l l.length) : ∀ x ∈ l, x.on.nodes ≤ 200 := by unfold smallF at h; rwa [List.take_length] at h
def MqAt (w : World) (cs : Array Value) (n : Nat) (P : Nat → Prop) (i : Value) (wr : World) : Prop := ∃ j : Nat, j ≤ n ∧ i = .int .i64 j ∧ Grew w wr ∧ Blok wr w.heap.size 66 cs ∧ P j
set_option maxHeartbeats 4000000 in
set_option maxRecDepth 100000 in
theorem muchq_any (it : List Ex) (sr : List Fr) (wh : Ex) (gr : List Ex) (A : Option Addr) (k : Nat) (B : Option Addr) (j : Nat) (C : Option Addr) (c : Nat) (D : Option Addr) (d : Nat) (w : World)
    (rA : ExsR (PRow w) A it) (rB : FrsR (PRow w) B sr) (rC : ExsR (PRow w) C wh.l) (rD : ExsR (PRow w) D gr) :
    Calls Try.prog 47 #[.agg (qyC it sr wh gr A k B j C c D d)] w (MuchR w (goodQ ⟨it, sr, wh, gr⟩)) := by
  have RA := Lib.hid rA
  have RB := Lib.hid rB
  have RD := Lib.hid rD
  have HMw : Hid (∀ W, Grew w W → Calls Try.prog 32 #[exV wh C c] W (MuchR W (wh.nodes ≤ 200))) := Lib.hid fun W hW => much8_any wh C c W (rC.grew hW)
  clear rA rB rC rD
  unfold qyC
  unfold exV at HMw
  by_cases h1 : 20 < it.length
  · have h1' : (20 : Int) < it.length := by omega
    clear HMw
    go_enter Try.func47, Try.ntmps47
    go_wp2
    go_ret
    exact muchR_true _ (by (show Grew _ _; repeat (first | exact Grew.refl _ | refine Grew.alloc ?_ _ | refine Grew.drew ?_ | refine Grew.more ?_ _)))
  have h1' : (it.length : Int) ≤ 20 := by omega
  by_cases h2 : 12 < sr.length
  · have h2' : (12 : Int) < sr.length := by omega
    clear HMw
    go_enter Try.func47, Try.ntmps47
    go_wp2
    go_ret
    exact muchR_true _ (by (show Grew _ _; repeat (first | exact Grew.refl _ | refine Grew.alloc ?_ _ | refine Grew.drew ?_ | refine Grew.more ?_ _)))
  have h2' : (sr.length : Int) ≤ 12 := by omega
  by_cases h3 : 12 < gr.length
  · have h3' : (12 : Int) < gr.length := by omega
    clear HMw
    go_enter Try.func47, Try.ntmps47
    go_wp2
    go_ret
    exact muchR_true _ (by (show Grew _ _; repeat (first | exact Grew.refl _ | refine Grew.alloc ?_ _ | refine Grew.drew ?_ | refine Grew.more ?_ _)))
  have h3' : (gr.length : Int) ≤ 12 := by omega
  go_enter Try.func47, Try.ntmps47
  go_wp2_with fail
  refine (HMw.out _ ((Grew.refl w).alloc _)).mono ?_
  rintro e w2 ⟨t, rfl, hg2, ht⟩
  have HG2 : Hid (Grew w w2) := Lib.hid (((Grew.refl w).alloc _).trans hg2)
  have HB2 := Lib.hid ((Blok.new w 66 #[.slice A it.length k, .slice B sr.length j, .int .i64 wh.op, .string wh.tab, .string wh.name, .int .i64 wh.t, .int .i64 wh.c, .int .i64 wh.vk, .int .i64 wh.vi, .string wh.vs, .slice C wh.l.length c, .slice D gr.length d] _ rfl).grew hg2)
  have HT := Lib.hid ht
  clear hg2 ht
  cases t
  rotate_left
  · go_wp2
    go_ret
    exact muchR_true _ HG2.out
  have HW := Lib.hid (HT.out (by first | rfl | trivial))
  clear HT HMw
  go_wp2
  go_loopw [3] (fun i wr => MqAt w #[.slice A it.length k, .slice B sr.length j, .int .i64 wh.op, .string wh.tab, .string wh.name, .int .i64 wh.t, .int .i64 wh.c, .int .i64 wh.vk, .int .i64 wh.vi, .string wh.vs, .slice C wh.l.length c, .slice D gr.length d] it.length (smallE it) i wr) (fun i _ => it.length - (intOf i).toNat)
  case atStart => exact ⟨0, Nat.zero_le _, rfl, HG2.out, HB2.out, by simp [smallE]⟩
  case round =>
    obtain ⟨i, hi, rfl, hg, hb, hp⟩ := hrel
    have HG := Lib.hid hg
    have HB := Lib.hid hb
    have HP := Lib.hid hp
    clear hg hb hp HG2 HB2
    by_cases h : i < it.length
    · obtain ⟨ba, oa, PA, ka, rfl, hpa, h9⟩ := exsR_nine RA.out h
      have HC : Hid (∀ W, Grew w W → Calls Try.prog 32 #[exV it[i] PA ka] W (MuchR W (it[i].nodes ≤ 200))) := Lib.hid fun W hW => much8_any _ _ _ W (hpa.grew hW)
      have HN := Lib.hid (fun hx => take_all (P := fun x : Ex => x.nodes ≤ 200) HP.out h hx)
      obtain ⟨p0, a0, a1, a2, a3, a4, a5, a6, a7, a8⟩ := h9.grew HG.out
      have b0 := (box12 HB.out).lt
      have c0 := (box12 HB.out).a0
      clear h9 hpa
      generalize it[i] = x at *
      unfold exV at HC
      go_wp2_with fail
      refine (HC.out _ HG.out).mono ?_
      rintro e w3 ⟨t, rfl, hg3, ht⟩
      have HG3 := Lib.hid hg3
      have HT := Lib.hid ht
      clear hg3 ht
      cases t
      · go_wp2
        exact ⟨⟨i + 1, by omega, by go_num, HG.out.trans HG3.out, HB.out.grew HG3.out, HN.out (HT.out (by first | rfl | trivial))⟩, by simp only [intOf]; omega⟩
      · go_wp2
        go_ret
        exact muchR_true _ (HG.out.trans HG3.out)
    · obtain rfl : i = it.length := by omega
      have HP1 := Lib.hid (smallE_all HP.out)
      have b0 := (box12 HB.out).lt
      have c0 := (box12 HB.out).a0
      go_wp2
      clear b0 c0
      go_loopw [4] (fun i wr => MqAt w #[.slice A it.length k, .slice B sr.length j, .int .i64 wh.op, .string wh.tab, .string wh.name, .int .i64 wh.t, .int .i64 wh.c, .int .i64 wh.vk, .int .i64 wh.vi, .string wh.vs, .slice C wh.l.length c, .slice D gr.length d] gr.length (smallE gr) i wr) (fun i _ => gr.length - (intOf i).toNat)
      case atStart => exact ⟨0, Nat.zero_le _, rfl, HG.out, HB.out, by simp [smallE]⟩
      case round =>
        clear HP HG HB RA
        obtain ⟨i, hi, rfl, hg, hb, hp⟩ := hrel
        have HG := Lib.hid hg
        have HB := Lib.hid hb
        have HP := Lib.hid hp
        clear hg hb hp
        by_cases h : i < gr.length
        · obtain ⟨ba, oa, PA, ka, rfl, hpa, h9⟩ := exsR_nine RD.out h
          have HC : Hid (∀ W, Grew w W → Calls Try.prog 32 #[exV gr[i] PA ka] W (MuchR W (gr[i].nodes ≤ 200))) := Lib.hid fun W hW => much8_any _ _ _ W (hpa.grew hW)
          have HN := Lib.hid (fun hx => take_all (P := fun x : Ex => x.nodes ≤ 200) HP.out h hx)
          obtain ⟨p0, a0, a1, a2, a3, a4, a5, a6, a7, a8⟩ := h9.grew HG.out
          have b0 := (box12 HB.out).lt
          have c11 := (box12 HB.out).a11
          clear h9 hpa
          generalize gr[i] = x at *
          unfold exV at HC
          go_wp2_with fail
          refine (HC.out _ HG.out).mono ?_
          rintro e w3 ⟨t, rfl, hg3, ht⟩
          have HG3 := Lib.hid hg3
          have HT := Lib.hid ht
          clear hg3 ht
          cases t
          · go_wp2
            exact ⟨⟨i + 1, by omega, by go_num, HG.out.trans HG3.out, HB.out.grew HG3.out, HN.out (HT.out (by first | rfl | trivial))⟩, by simp only [intOf]; omega⟩
          · go_wp2
            go_ret
            exact muchR_true _ (HG.out.trans HG3.out)
        · obtain rfl : i = gr.length := by omega
          have HP2 := Lib.hid (smallE_all HP.out)
          have b0 := (box12 HB.out).lt
          have c11 := (box12 HB.out).a11
          go_wp2
          clear b0 c11
          go_loopw [5] (fun i wr => MqAt w #[.slice A it.length k, .slice B sr.length j, .int .i64 wh.op, .string wh.tab, .string wh.name, .int .i64 wh.t, .int .i64 wh.c, .int .i64 wh.vk, .int .i64 wh.vi, .string wh.vs, .slice C wh.l.length c, .slice D gr.length d] sr.length (smallF sr) i wr) (fun i _ => sr.length - (intOf i).toNat)
          case atStart => exact ⟨0, Nat.zero_le _, rfl, HG.out, HB.out, by simp [smallF]⟩
          case round =>
            clear HP HG HB RD
            obtain ⟨i, hi, rfl, hg, hb, hp⟩ := hrel
            have HG := Lib.hid hg
            have HB := Lib.hid hb
            have HP := Lib.hid hp
            clear hg hb hp
            by_cases h : i < sr.length
            · obtain ⟨ba, oa, PA, ka, rfl, hpa, h9, e0, e1, e2⟩ := frsR_at RB.out h
              have HC : Hid (∀ W, Grew w W → Calls Try.prog 32 #[exV sr[i].on PA ka] W (MuchR W (sr[i].on.nodes ≤ 200))) := Lib.hid fun W hW => much8_any _ _ _ W (hpa.grew hW)
              have HN := Lib.hid (fun hx => take_all (P := fun x : Fr => x.on.nodes ≤ 200) HP.out h hx)
              have HS : Hid (∀ W, Grew wr W → At9 W ba (oa + i * 12 + 3) sr[i].on PA ka ∧ W.cell? ⟨ba, oa + i * 12 + 1, none⟩ = some (.string sr[i].table) ∧ W.cell? ⟨ba, oa + i * 12 + 2, none⟩ = some (.string sr[i].short)) := Lib.hid fun W hW => by
                have g := HG.out.trans hW
                have h9' := h9.grew g
                obtain ⟨z, rfl⟩ := g
                refine ⟨h9', ?_, ?_⟩
                · rw [more_cell _ _ _ h9.lt]; exact e1
                · rw [more_cell _ _ _ h9.lt]; exact e2
              have HBS := Lib.hid (fun W (hW : Grew wr W) => box12 (HB.out.grew hW))
              clear h9 hpa e0 e1 e2
              generalize sr[i] = x at *
              unfold exV at HC
              obtain ⟨q1, _⟩ := HS.out wr (Grew.refl _)
              obtain ⟨p0, a0, a1, a2, a3, a4, a5, a6, a7, a8⟩ := q1
              have b0 := (box12 HB.out).lt
              have c1 := (box12 HB.out).a1
              go_upto_region 16 with fail
              clear p0 a0 a1 a2 a3 a4 a5 a6 a7 a8 b0 c1
              refine wp_region_S (fun W => Grew wr W) (by kernel_rfl) ?_
              refine held_take 0 (v := ?_) rfl (by kernel_rfl) (by kernel_rfl) (by kernel_rfl) (fun _ _ _ h => h) (by rfl) ?_ (Grew.refl _).drew ?_
              rotate_left
              · (intro W hW; go_simp; with_reducible rfl)
              refine held_norm (a' := ?_) ?_ ?_
              rotate_left
              · (go_simp; with_reducible rfl)
              refine held_take 1 (v := ?_) rfl (by kernel_rfl) (by kernel_rfl) (by kernel_rfl) (fun _ _ _ h => h) (by rfl) ?_ (Grew.refl _).drew ?_
              rotate_left
              · (intro W hW; obtain ⟨⟨_, q0, q1, q2, q3, q4, q5, q6, q7, q8⟩, qt, qs⟩ := HS.out W hW; have r1 := (HBS.out W hW).a1; have r0 := (HBS.out W hW).lt; go_simp; with_reducible rfl)
              refine held_norm (a' := ?_) ?_ ?_
              rotate_left
              · (go_simp; with_reducible rfl)
              refine held_take 2 (v := ?_) rfl (by kernel_rfl) (by kernel_rfl) (by kernel_rfl) (fun _ _ _ h => h) (by rfl) ?_ (Grew.refl _).drew ?_
              rotate_left
              · (intro W hW; go_simp; with_reducible rfl)
              refine held_norm (a' := ?_) ?_ ?_
              rotate_left
              · (go_simp; with_reducible rfl)
              refine held_take 3 (v := ?_) rfl (by kernel_rfl) (by kernel_rfl) (by kernel_rfl) (fun _ _ _ h => h) (by rfl) ?_ (Grew.refl _).drew ?_
              rotate_left
              · (intro W hW; go_simp; with_reducible rfl)
              refine held_norm (a' := ?_) ?_ ?_
              rotate_left
              · (go_simp; with_reducible rfl)
              refine held_take 4 (v := ?_) rfl (by kernel_rfl) (by kernel_rfl) (by kernel_rfl) (fun _ _ _ h => h) (by rfl) ?_ (Grew.refl _).drew ?_
              rotate_left
              · (intro W hW; go_simp; with_reducible rfl)
              refine held_norm (a' := ?_) ?_ ?_
              rotate_left
              · (go_simp; with_reducible rfl)
              refine held_take 5 (v := ?_) rfl (by kernel_rfl) (by kernel_rfl) (by kernel_rfl) (fun _ _ _ h => h) (by rfl) ?_ (Grew.refl _).drew ?_
              rotate_left
              · (intro W hW; obtain ⟨⟨_, q0, q1, q2, q3, q4, q5, q6, q7, q8⟩, qt, qs⟩ := HS.out W hW; have r1 := (HBS.out W hW).a1; have r0 := (HBS.out W hW).lt; go_simp; with_reducible rfl)
              refine held_norm (a' := ?_) ?_ ?_
              rotate_left
              · (go_simp; with_reducible rfl)
              refine held_call 6 (by kernel_rfl) rfl (by rfl) (fun K hK => ?_)
              go_simp
              refine (HC.out _ (HG.out.trans (Grew.refl wr).drew)).mono ?_
              rintro e w3 ⟨t, rfl, hg3, ht⟩; have HG3 := Lib.hid (Grew.trans (Grew.refl wr).drew hg3); have HT := Lib.hid ht; clear hg3 ht
              go_wp2
              refine hK.out _ _ HG3.out ?_
              clear hK K
              cases t
              ·
                refine held_take 7 (v := ?_) rfl (by kernel_rfl) (by kernel_rfl) (by kernel_rfl) (fun _ _ _ h => h) (by rfl) ?_ HG3.out ?_
                rotate_left
                · (intro W hW; obtain ⟨⟨_, q0, q1, q2, q3, q4, q5, q6, q7, q8⟩, qt, qs⟩ := HS.out W hW; have r1 := (HBS.out W hW).a1; have r0 := (HBS.out W hW).lt; go_simp; with_reducible rfl)
                refine held_norm (a' := ?_) ?_ ?_
                rotate_left
                · (go_simp; with_reducible rfl)
                refine held_take 8 (v := ?_) rfl (by kernel_rfl) (by kernel_rfl) (by kernel_rfl) (fun _ _ _ h => h) (by rfl) ?_ HG3.out ?_
                rotate_left
                · (intro W hW; go_simp; with_reducible rfl)
                refine held_take 10 (v := ?_) rfl (by kernel_rfl) (by kernel_rfl) (by kernel_rfl) (fun _ _ _ h => h) (by rfl) ?_ HG3.out ?_
                rotate_left
                · (intro W hW; go_simp; with_reducible rfl)
                refine held_norm (a' := ?_) ?_ ?_
                rotate_left
                · (go_simp; with_reducible rfl)
                refine held_take 9 (v := ?_) rfl (by kernel_rfl) (by kernel_rfl) (by kernel_rfl) (fun _ _ _ h => h) (by rfl) ?_ HG3.out ?_
                rotate_left
                · (intro W hW; obtain ⟨⟨_, q0, q1, q2, q3, q4, q5, q6, q7, q8⟩, qt, qs⟩ := HS.out W hW; have r1 := (HBS.out W hW).a1; have r0 := (HBS.out W hW).lt; go_simp; with_reducible rfl)
                refine held_norm (a' := ?_) ?_ ?_
                rotate_left
                · (go_simp; with_reducible rfl)
                refine held_take 11 (v := ?_) rfl (by kernel_rfl) (by kernel_rfl) (by kernel_rfl) (fun _ _ _ h => h) (by rfl) ?_ HG3.out ?_
                rotate_left
                · (intro W hW; go_simp; with_reducible rfl)
                refine held_norm (a' := ?_) ?_ ?_
                rotate_left
                · (go_simp; with_reducible rfl)
                refine held_take 12 (v := ?_) rfl (by kernel_rfl) (by kernel_rfl) (by kernel_rfl) (fun _ _ _ h => h) (by rfl) ?_ HG3.out ?_
                rotate_left
                · (intro W hW; go_simp; with_reducible rfl)
                refine held_norm (a' := ?_) ?_ ?_
                rotate_left
                · (go_simp; with_reducible rfl)
                refine held_take 13 (v := ?_) rfl (by kernel_rfl) (by kernel_rfl) (by kernel_rfl) (fun _ _ _ h => h) (by rfl) ?_ HG3.out ?_
                rotate_left
                · (intro W hW; obtain ⟨⟨_, q0, q1, q2, q3, q4, q5, q6, q7, q8⟩, qt, qs⟩ := HS.out W hW; have r1 := (HBS.out W hW).a1; have r0 := (HBS.out W hW).lt; go_simp; with_reducible rfl)
                refine held_norm (a' := ?_) ?_ ?_
                rotate_left
                · (go_simp; with_reducible rfl)
                refine held_take 14 (v := ?_) rfl (by kernel_rfl) (by kernel_rfl) (by kernel_rfl) (fun _ _ _ h => h) (by rfl) ?_ HG3.out ?_
                rotate_left
                · (intro W hW; go_simp; with_reducible rfl)
                refine held_norm (a' := ?_) ?_ ?_
                rotate_left
                · (go_simp; with_reducible rfl)
                refine held_take 15 (v := ?_) rfl (by kernel_rfl) (by kernel_rfl) (by kernel_rfl) (fun _ _ _ h => h) (by rfl) ?_ HG3.out ?_
                rotate_left
                · (intro W hW; go_simp; with_reducible rfl)
                refine held_take 17 (v := ?_) rfl (by kernel_rfl) (by kernel_rfl) (by kernel_rfl) (fun _ _ _ h => h) (by rfl) ?_ HG3.out ?_
                rotate_left
                · (intro W hW; go_simp; with_reducible rfl)
                refine held_norm (a' := ?_) ?_ ?_
                rotate_left
                · (go_simp; with_reducible rfl)
                refine held_take 16 (v := ?_) rfl (by kernel_rfl) (by kernel_rfl) (by kernel_rfl) (fun _ _ _ h => h) (by rfl) ?_ HG3.out ?_
                rotate_left
                · (intro W hW; obtain ⟨⟨_, q0, q1, q2, q3, q4, q5, q6, q7, q8⟩, qt, qs⟩ := HS.out W hW; have r1 := (HBS.out W hW).a1; have r0 := (HBS.out W hW).lt; go_simp; with_reducible rfl)
                refine held_norm (a' := ?_) ?_ ?_
                rotate_left
                · (go_simp; with_reducible rfl)
                refine held_take 18 (v := ?_) rfl (by kernel_rfl) (by kernel_rfl) (by kernel_rfl) (fun _ _ _ h => h) (by rfl) ?_ HG3.out ?_
                rotate_left
                · (intro W hW; go_simp; with_reducible rfl)
                refine held_norm (a' := ?_) ?_ ?_
                rotate_left
                · (go_simp; with_reducible rfl)
                refine held_take 19 (v := ?_) rfl (by kernel_rfl) (by kernel_rfl) (by kernel_rfl) (fun _ _ _ h => h) (by rfl) ?_ HG3.out ?_
                rotate_left
                · (intro W hW; go_simp; with_reducible rfl)
                refine held_norm (a' := ?_) ?_ ?_
                rotate_left
                · (go_simp; with_reducible rfl)
                refine held_take 20 (v := ?_) rfl (by kernel_rfl) (by kernel_rfl) (by kernel_rfl) (fun _ _ _ h => h) (by rfl) ?_ HG3.out ?_
                rotate_left
                · (intro W hW; obtain ⟨⟨_, q0, q1, q2, q3, q4, q5, q6, q7, q8⟩, qt, qs⟩ := HS.out W hW; have r1 := (HBS.out W hW).a1; have r0 := (HBS.out W hW).lt; go_simp; with_reducible rfl)
                refine held_norm (a' := ?_) ?_ ?_
                rotate_left
                · (go_simp; with_reducible rfl)
                refine held_take 21 (v := ?_) rfl (by kernel_rfl) (by kernel_rfl) (by kernel_rfl) (fun _ _ _ h => h) (by rfl) ?_ HG3.out ?_
                rotate_left
                · (intro W hW; go_simp; with_reducible rfl)
                refine held_norm (a' := ?_) ?_ ?_
                rotate_left
                · (go_simp; with_reducible rfl)
                refine held_take 22 (v := ?_) rfl (by kernel_rfl) (by kernel_rfl) (by kernel_rfl) (fun _ _ _ h => h) (by rfl) ?_ HG3.out ?_
                rotate_left
                · (intro W hW; go_simp; with_reducible rfl)
                refine held_norm (a' := ?_) ?_ ?_
                rotate_left
                · (go_simp; with_reducible rfl)
                refine held_take 23 (v := ?_) rfl (by kernel_rfl) (by kernel_rfl) (by kernel_rfl) (fun _ _ _ h => h) (by rfl) ?_ HG3.out ?_
                rotate_left
                · (intro W hW; go_simp; with_reducible rfl)
                refine held_norm (a' := ?_) ?_ ?_
                rotate_left
                · (go_simp; with_reducible rfl)
                refine held_take 24 (v := ?_) rfl (by kernel_rfl) (by kernel_rfl) (by kernel_rfl) (fun _ _ _ h => h) (by rfl) ?_ HG3.out ?_
                rotate_left
                · (intro W hW; go_simp; with_reducible rfl)
                refine held_norm (a' := ?_) ?_ ?_
                rotate_left
                · (go_simp; with_reducible rfl)
                refine held_done (by kernel_rfl) ?_
                go_upto_region 17 with fail
                · go_wp2
                  go_ret
                  exact muchR_true _ (HG.out.trans HG3.out)
                · exact ⟨⟨i + 1, by omega, by go_num, HG.out.trans HG3.out, HB.out.grew HG3.out, HN.out (HT.out (by first | rfl | trivial))⟩, by simp only [intOf]; omega⟩
              ·
                refine held_take 7 (v := ?_) rfl (by kernel_rfl) (by kernel_rfl) (by kernel_rfl) (fun _ _ _ h => h) (by rfl) ?_ HG3.out ?_
                rotate_left
                · (intro W hW; obtain ⟨⟨_, q0, q1, q2, q3, q4, q5, q6, q7, q8⟩, qt, qs⟩ := HS.out W hW; have r1 := (HBS.out W hW).a1; have r0 := (HBS.out W hW).lt; go_simp; with_reducible rfl)
                refine held_norm (a' := ?_) ?_ ?_
                rotate_left
                · (go_simp; with_reducible rfl)
                refine held_skip 8 rfl (by kernel_rfl) (by kernel_rfl) (by kernel_rfl) (fun _ _ _ h => h) (by rfl) HG3.out ?_
                refine held_norm (a' := ?_) ?_ ?_
                rotate_left
                · (go_simp; with_reducible rfl)
                refine held_skip 9 rfl (by kernel_rfl) (by kernel_rfl) (by kernel_rfl) (fun _ _ _ h => h) (by rfl) HG3.out ?_
                refine held_norm (a' := ?_) ?_ ?_
                rotate_left
                · (go_simp; with_reducible rfl)
                refine held_skip 10 rfl (by kernel_rfl) (by kernel_rfl) (by kernel_rfl) (fun _ _ _ h => h) (by rfl) HG3.out ?_
                refine held_norm (a' := ?_) ?_ ?_
                rotate_left
                · (go_simp; with_reducible rfl)
                refine held_skip 11 rfl (by kernel_rfl) (by kernel_rfl) (by kernel_rfl) (fun _ _ _ h => h) (by rfl) HG3.out ?_
                refine held_norm (a' := ?_) ?_ ?_
                rotate_left
                · (go_simp; with_reducible rfl)
                refine held_skip 12 rfl (by kernel_rfl) (by kernel_rfl) (by kernel_rfl) (fun _ _ _ h => h) (by rfl) HG3.out ?_
                refine held_norm (a' := ?_) ?_ ?_
                rotate_left
                · (go_simp; with_reducible rfl)
                refine held_skip 13 rfl (by kernel_rfl) (by kernel_rfl) (by kernel_rfl) (fun _ _ _ h => h) (by rfl) HG3.out ?_
                refine held_norm (a' := ?_) ?_ ?_
                rotate_left
                · (go_simp; with_reducible rfl)
                refine held_skip 14 rfl (by kernel_rfl) (by kernel_rfl) (by kernel_rfl) (fun _ _ _ h => h) (by rfl) HG3.out ?_
                refine held_norm (a' := ?_) ?_ ?_
                rotate_left
                · (go_simp; with_reducible rfl)
                refine held_skip 15 rfl (by kernel_rfl) (by kernel_rfl) (by kernel_rfl) (fun _ _ _ h => h) (by rfl) HG3.out ?_
                refine held_norm (a' := ?_) ?_ ?_
                rotate_left
                · (go_simp; with_reducible rfl)
                refine held_skip 16 rfl (by kernel_rfl) (by kernel_rfl) (by kernel_rfl) (fun _ _ _ h => h) (by rfl) HG3.out ?_
                refine held_norm (a' := ?_) ?_ ?_
                rotate_left
                · (go_simp; with_reducible rfl)
                refine held_skip 17 rfl (by kernel_rfl) (by kernel_rfl) (by kernel_rfl) (fun _ _ _ h => h) (by rfl) HG3.out ?_
                refine held_norm (a' := ?_) ?_ ?_
                rotate_left
                · (go_simp; with_reducible rfl)
                refine held_skip 18 rfl (by kernel_rfl) (by kernel_rfl) (by kernel_rfl) (fun _ _ _ h => h) (by rfl) HG3.out ?_
                refine held_norm (a' := ?_) ?_ ?_
                rotate_left
                · (go_simp; with_reducible rfl)
                refine held_skip 19 rfl (by kernel_rfl) (by kernel_rfl) (by kernel_rfl) (fun _ _ _ h => h) (by rfl) HG3.out ?_
                refine held_norm (a' := ?_) ?_ ?_
                rotate_left
                · (go_simp; with_reducible rfl)
                refine held_skip 20 rfl (by kernel_rfl) (by kernel_rfl) (by kernel_rfl) (fun _ _ _ h => h) (by rfl) HG3.out ?_
                refine held_norm (a' := ?_) ?_ ?_
                rotate_left
                · (go_simp; with_reducible rfl)
                refine held_skip 21 rfl (by kernel_rfl) (by kernel_rfl) (by kernel_rfl) (fun _ _ _ h => h) (by rfl) HG3.out ?_
                refine held_norm (a' := ?_) ?_ ?_
                rotate_left
                · (go_simp; with_reducible rfl)
                refine held_skip 22 rfl (by kernel_rfl) (by kernel_rfl) (by kernel_rfl) (fun _ _ _ h => h) (by rfl) HG3.out ?_
                refine held_norm (a' := ?_) ?_ ?_
                rotate_left
                · (go_simp; with_reducible rfl)
                refine held_skip 23 rfl (by kernel_rfl) (by kernel_rfl) (by kernel_rfl) (fun _ _ _ h => h) (by rfl) HG3.out ?_
                refine held_norm (a' := ?_) ?_ ?_
                rotate_left
                · (go_simp; with_reducible rfl)
                refine held_take 24 (v := ?_) rfl (by kernel_rfl) (by kernel_rfl) (by kernel_rfl) (fun _ _ _ h => h) (by rfl) ?_ HG3.out ?_
                rotate_left
                · (intro W hW; obtain ⟨⟨_, q0, q1, q2, q3, q4, q5, q6, q7, q8⟩, qt, qs⟩ := HS.out W hW; have r1 := (HBS.out W hW).a1; have r0 := (HBS.out W hW).lt; go_simp; with_reducible rfl)
                refine held_norm (a' := ?_) ?_ ?_
                rotate_left
                · (go_simp; with_reducible rfl)
                refine held_done (by kernel_rfl) ?_
                go_wp2
                go_ret
                exact muchR_true _ (HG.out.trans HG3.out)
            · obtain rfl : i = sr.length := by omega
              have HP3 := Lib.hid (smallF_all HP.out)
              have b0 := (box12 HB.out).lt
              have c1 := (box12 HB.out).a1
              go_wp2
              go_ret
              exact muchR_false HG.out ⟨by show it.length ≤ 20; omega, by show sr.length ≤ 12; omega, by show gr.length ≤ 12; omega, HW.out, HP1.out, HP2.out, HP3.out⟩
end Go.Proofs.Ytcokhgomibimcaa
