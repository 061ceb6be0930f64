/- Layer 16: the parts of a condition, by the program. Condition: expressions that lie in memory that is there. -/
import Derived.Test.YtoaciliojdaoaaaQuery
import Derived.Test.YtoaciliojdaoaaaTree12
import Derived.WalkKit
import Derived.OpenShut
import Derived.Test.YtoaciliojdaoaaaLawVal
import Derived.Laws.Externs
import Derived.Shelf.Spec.BitsCarry
import Derived.Deep.RegionWith
import Derived.Test.YtoaciliojdaoaaaExW
import Derived.Deep.DeepCutAuto
import Derived.Test.YtoaciliojdaoaaaTree11
import Derived.Test.YtoaciliojdaoaaaTree9

/- Layer 8: sources that are the same. Condition: expressions that lie in memory that is there. -/
namespace Go.Proofs.Ytoaciliojdaoaaa
open Go.RowKit
attribute [local go_sem] more_cell more_frozen more_more more_setCell more_of_drew more_of_drewN lt_more le_more past_cell past_cell2 past_frozen past_frozen2 past_setCell past_setCell2 mid_cell mid_frozen mid_setCell
attribute [local go_sem ↓] Go.wp_at_zero Go.wp_at_succ

def frV (x : Fr) (A : Option Addr) (k : Nat) : Value := .agg #[.int .i64 x.join, .string x.table, .string x.short, .int .i64 x.on.op, .string x.on.tab, .string x.on.name, .int .i64 x.on.t, .int .i64 x.on.c, .int .i64 x.on.vk, .int .i64 x.on.vi, .string x.on.vs, .slice A x.on.l.length k]
theorem fr_same (x y : Fr) : x = y ↔ x.join = y.join ∧ x.table = y.table ∧ x.short = y.short ∧ x.on = y.on := by
  constructor
  · intro h; subst h; exact ⟨rfl, rfl, rfl, rfl⟩
  · intro ⟨h0, h1, h2, h3⟩
    cases x; cases y
    simp only at h0 h1 h2 h3
    subst h0 h1 h2 h3
    rfl
theorem bytes_beq (a b : ByteArray) (h : a = b) : (a.toList == b.toList) = true := by subst h; exact beq_self_eq_true _
theorem bytes_bne (a b : ByteArray) (h : ¬ a = b) : (a.toList == b.toList) = false := by rw [beq_eq_false_iff_ne]; exact fun e => h (bytes_ext e)
end Go.Proofs.Ytoaciliojdaoaaa

/- Layer 8: sources that are the same, one by one. Condition: expressions that lie in memory that is there. -/
namespace Go.Proofs.Ytoaciliojdaoaaa
open Go.RowKit
attribute [local go_sem] more_cell more_frozen more_more more_setCell more_of_drew more_of_drewN lt_more le_more past_cell past_cell2 past_frozen past_frozen2 past_setCell past_setCell2 mid_cell mid_frozen mid_setCell
attribute [local go_sem ↓] Go.wp_at_zero Go.wp_at_succ
def EqFr (w : World) (l m : List Fr) (i : Value) (wr : World) : Prop := ∃ j : Nat, j ≤ l.length ∧ i = .int .i64 j ∧ Grew w wr ∧ l.take j = m.take j
theorem frsR_all {w : World} {A : Option Addr} {l : List Fr} (h : FrsR (PRow w) A l) {i : Nat} (hi : i < l.length) :
    ∃ b o B k, A = some ⟨b, o, none⟩ ∧ ExsR (PRow w) B l[i].on.l ∧ b < w.heap.size ∧ ∀ j u, (Value.int .i64 l[i].join :: .string l[i].table :: .string l[i].short :: exC l[i].on B k)[j]? = some u → w.cell? ⟨b, o + i * 12 + j, none⟩ = some u := by
  obtain ⟨css, h1, h2⟩ := h
  obtain ⟨b, o, cs, hA, hb, hr, _, hc⟩ := h1.at_ h2 (by decide) hi
  obtain ⟨B, k, rfl, hp⟩ := hr
  exact ⟨b, o, B, k, hA, hp, hb, fun j u hu => by rw [Nat.add_assoc]; exact hc j u hu⟩
end Go.Proofs.Ytoaciliojdaoaaa

/- Layer 8: what queries are more than is asked. Condition: a query that lies in memory that is there. -/
namespace Go.Proofs.Ytoaciliojdaoaaa
open Go.RowKit
attribute [local go_sem] more_cell more_frozen more_more more_setCell more_of_drew more_of_drewN lt_more le_more past_cell past_cell2 past_frozen past_frozen2 past_setCell past_setCell2 mid_cell mid_frozen mid_setCell
attribute [local go_sem ↓] Go.wp_at_zero Go.wp_at_succ

/-- No more than is asked of queries. -/
structure goodQ (q : Qy) : Prop where
  items : q.items.length ≤ 20
  src : q.src.length ≤ 12
  group : q.group.length ≤ 12
  wh : q.wh.nodes ≤ 200
  item : ∀ x ∈ q.items, x.nodes ≤ 200
  one : ∀ x ∈ q.group, x.nodes ≤ 200
  on : ∀ x ∈ q.src, x.on.nodes ≤ 200
/-- The cells of a query. -/
def qyC (it : List Ex) (sr : List Fr) (wh : Ex) (gr : List Ex) (A : Option Addr) (k : Nat) (B : Option Addr) (j : Nat) (C : Option Addr) (c : Nat) (D : Option Addr) (d : Nat) : Array Value :=
  #[.slice A it.length k, .slice B sr.length j, .int .i64 wh.op, .string wh.tab, .string wh.name, .int .i64 wh.t, .int .i64 wh.c, .int .i64 wh.vk, .int .i64 wh.vi, .string wh.vs, .slice C wh.l.length c, .slice D gr.length d]
structure At12 (w : World) (g : Nat) (x : Ex) (v0 v1 v10 v11 : Value) : Prop where
  lt : g < w.heap.size
  a0 : w.cell? ⟨g, 0, none⟩ = some v0
  a1 : w.cell? ⟨g, 1, none⟩ = some v1
  a2 : w.cell? ⟨g, 2, none⟩ = some (.int .i64 x.op)
  a3 : w.cell? ⟨g, 3, none⟩ = some (.string x.tab)
  a4 : w.cell? ⟨g, 4, none⟩ = some (.string x.name)
  a5 : w.cell? ⟨g, 5, none⟩ = some (.int .i64 x.t)
  a6 : w.cell? ⟨g, 6, none⟩ = some (.int .i64 x.c)
  a7 : w.cell? ⟨g, 7, none⟩ = some (.int .i64 x.vk)
  a8 : w.cell? ⟨g, 8, none⟩ = some (.int .i64 x.vi)
  a9 : w.cell? ⟨g, 9, none⟩ = some (.string x.vs)
  a10 : w.cell? ⟨g, 10, none⟩ = some v10
  a11 : w.cell? ⟨g, 11, none⟩ = some v11
theorem box12 {w : World} {g : Nat} {x : Ex} {v0 v1 v10 v11 : Value} (h : Blok w g 29 #[v0, v1, .int .i64 x.op, .string x.tab, .string x.name, .int .i64 x.t, .int .i64 x.c, .int .i64 x.vk, .int .i64 x.vi, .string x.vs, v10, v11]) : At12 w g x v0 v1 v10 v11 :=
  ⟨h.lt, h.cell 0, h.cell 1, h.cell 2, h.cell 3, h.cell 4, h.cell 5, h.cell 6, h.cell 7, h.cell 8, h.cell 9, h.cell 10, h.cell 11⟩
def smallE (l : List Ex) (j : Nat) : Prop := ∀ x ∈ l.take j, x.nodes ≤ 200
def smallF (l : List Fr) (j : Nat) : Prop := ∀ x ∈ l.take j, x.on.nodes ≤ 200
theorem smallE_all {l : List Ex} (h : smallE l l.length) : ∀ x ∈ l, x.nodes ≤ 200 := by unfold smallE at h; rwa [List.take_length] at h
theorem smallF_all {l : List Fr} (h : smallF l l.length) : ∀ x ∈ l, x.on.nodes ≤ 200 := by unfold smallF at h; rwa [List.take_length] at h
def MqAt (w : World) (cs : Array Value) (n : Nat) (P : Nat → Prop) (i : Value) (wr : World) : Prop := ∃ j : Nat, j ≤ n ∧ i = .int .i64 j ∧ Grew w wr ∧ Blok wr w.heap.size 29 cs ∧ P j
set_option maxHeartbeats 4000000 in
set_option maxRecDepth 100000 in
theorem muchq_any (it : List Ex) (sr : List Fr) (wh : Ex) (gr : List Ex) (A : Option Addr) (k : Nat) (B : Option Addr) (j : Nat) (C : Option Addr) (c : Nat) (D : Option Addr) (d : Nat) (w : World)
    (rA : ExsR (PRow w) A it) (rB : FrsR (PRow w) B sr) (rC : ExsR (PRow w) C wh.l) (rD : ExsR (PRow w) D gr) :
    Calls Try.prog 6 #[.agg (qyC it sr wh gr A k B j C c D d)] w (MuchR w (goodQ ⟨it, sr, wh, gr⟩)) := by
  have RA := Lib.hid rA
  have RB := Lib.hid rB
  have RD := Lib.hid rD
  have HMw : Hid (∀ W, Grew w W → Calls Try.prog 21 #[exV wh C c] W (MuchR W (wh.nodes ≤ 200))) := Lib.hid fun W hW => much8_any wh C c W (rC.grew hW)
  clear rA rB rC rD
  unfold qyC
  unfold exV at HMw
  by_cases h1 : 20 < it.length
  · have h1' : (20 : Int) < it.length := by omega
    clear HMw
    go_enter Try.func6, Try.ntmps6
    go_wp2
    go_ret
    exact muchR_true _ (by (show Grew _ _; repeat (first | exact Grew.refl _ | refine Grew.alloc ?_ _ | refine Grew.drew ?_ | refine Grew.more ?_ _)))
  have h1' : (it.length : Int) ≤ 20 := by omega
  by_cases h2 : 12 < sr.length
  · have h2' : (12 : Int) < sr.length := by omega
    clear HMw
    go_enter Try.func6, Try.ntmps6
    go_wp2
    go_ret
    exact muchR_true _ (by (show Grew _ _; repeat (first | exact Grew.refl _ | refine Grew.alloc ?_ _ | refine Grew.drew ?_ | refine Grew.more ?_ _)))
  have h2' : (sr.length : Int) ≤ 12 := by omega
  by_cases h3 : 12 < gr.length
  · have h3' : (12 : Int) < gr.length := by omega
    clear HMw
    go_enter Try.func6, Try.ntmps6
    go_wp2
    go_ret
    exact muchR_true _ (by (show Grew _ _; repeat (first | exact Grew.refl _ | refine Grew.alloc ?_ _ | refine Grew.drew ?_ | refine Grew.more ?_ _)))
  have h3' : (gr.length : Int) ≤ 12 := by omega
  go_enter Try.func6, Try.ntmps6
  go_wp2_with fail
  refine (HMw.out _ ((Grew.refl w).alloc _)).mono ?_
  rintro e w2 ⟨t, rfl, hg2, ht⟩
  have HG2 : Hid (Grew w w2) := Lib.hid (((Grew.refl w).alloc _).trans hg2)
  have HB2 := Lib.hid ((Blok.new w 29 #[.slice A it.length k, .slice B sr.length j, .int .i64 wh.op, .string wh.tab, .string wh.name, .int .i64 wh.t, .int .i64 wh.c, .int .i64 wh.vk, .int .i64 wh.vi, .string wh.vs, .slice C wh.l.length c, .slice D gr.length d] _ rfl).grew hg2)
  have HT := Lib.hid ht
  clear hg2 ht
  cases t
  rotate_left
  · go_wp2
    go_ret
    exact muchR_true _ HG2.out
  have HW := Lib.hid (HT.out (by first | rfl | trivial))
  clear HT HMw
  go_wp2
  go_loopw [3] (fun i wr => MqAt w #[.slice A it.length k, .slice B sr.length j, .int .i64 wh.op, .string wh.tab, .string wh.name, .int .i64 wh.t, .int .i64 wh.c, .int .i64 wh.vk, .int .i64 wh.vi, .string wh.vs, .slice C wh.l.length c, .slice D gr.length d] it.length (smallE it) i wr) (fun i _ => it.length - (intOf i).toNat)
  case atStart => exact ⟨0, Nat.zero_le _, rfl, HG2.out, HB2.out, by simp [smallE]⟩
  case round =>
    obtain ⟨i, hi, rfl, hg, hb, hp⟩ := hrel
    have HG := Lib.hid hg
    have HB := Lib.hid hb
    have HP := Lib.hid hp
    clear hg hb hp HG2 HB2
    by_cases h : i < it.length
    · obtain ⟨ba, oa, PA, ka, rfl, hpa, h9⟩ := exsR_nine RA.out h
      have HC : Hid (∀ W, Grew w W → Calls Try.prog 21 #[exV it[i] PA ka] W (MuchR W (it[i].nodes ≤ 200))) := Lib.hid fun W hW => much8_any _ _ _ W (hpa.grew hW)
      have HN := Lib.hid (fun hx => take_all (P := fun x : Ex => x.nodes ≤ 200) HP.out h hx)
      obtain ⟨p0, a0, a1, a2, a3, a4, a5, a6, a7, a8⟩ := h9.grew HG.out
      have b0 := (box12 HB.out).lt
      have c0 := (box12 HB.out).a0
      clear h9 hpa
      generalize it[i] = x at *
      unfold exV at HC
      go_wp2_with fail
      refine (HC.out _ HG.out).mono ?_
      rintro e w3 ⟨t, rfl, hg3, ht⟩
      have HG3 := Lib.hid hg3
      have HT := Lib.hid ht
      clear hg3 ht
      cases t
      · go_wp2
        exact ⟨⟨i + 1, by omega, by go_num, HG.out.trans HG3.out, HB.out.grew HG3.out, HN.out (HT.out (by first | rfl | trivial))⟩, by simp only [intOf]; omega⟩
      · go_wp2
        go_ret
        exact muchR_true _ (HG.out.trans HG3.out)
    · obtain rfl : i = it.length := by omega
      have HP1 := Lib.hid (smallE_all HP.out)
      have b0 := (box12 HB.out).lt
      have c0 := (box12 HB.out).a0
      go_wp2
      clear b0 c0
      go_loopw [4] (fun i wr => MqAt w #[.slice A it.length k, .slice B sr.length j, .int .i64 wh.op, .string wh.tab, .string wh.name, .int .i64 wh.t, .int .i64 wh.c, .int .i64 wh.vk, .int .i64 wh.vi, .string wh.vs, .slice C wh.l.length c, .slice D gr.length d] gr.length (smallE gr) i wr) (fun i _ => gr.length - (intOf i).toNat)
      case atStart => exact ⟨0, Nat.zero_le _, rfl, HG.out, HB.out, by simp [smallE]⟩
      case round =>
        clear HP HG HB RA
        obtain ⟨i, hi, rfl, hg, hb, hp⟩ := hrel
        have HG := Lib.hid hg
        have HB := Lib.hid hb
        have HP := Lib.hid hp
        clear hg hb hp
        by_cases h : i < gr.length
        · obtain ⟨ba, oa, PA, ka, rfl, hpa, h9⟩ := exsR_nine RD.out h
          have HC : Hid (∀ W, Grew w W → Calls Try.prog 21 #[exV gr[i] PA ka] W (MuchR W (gr[i].nodes ≤ 200))) := Lib.hid fun W hW => much8_any _ _ _ W (hpa.grew hW)
          have HN := Lib.hid (fun hx => take_all (P := fun x : Ex => x.nodes ≤ 200) HP.out h hx)
          obtain ⟨p0, a0, a1, a2, a3, a4, a5, a6, a7, a8⟩ := h9.grew HG.out
          have b0 := (box12 HB.out).lt
          have c11 := (box12 HB.out).a11
          clear h9 hpa
          generalize gr[i] = x at *
          unfold exV at HC
          go_wp2_with fail
          refine (HC.out _ HG.out).mono ?_
          rintro e w3 ⟨t, rfl, hg3, ht⟩
          have HG3 := Lib.hid hg3
          have HT := Lib.hid ht
          clear hg3 ht
          cases t
          · go_wp2
            exact ⟨⟨i + 1, by omega, by go_num, HG.out.trans HG3.out, HB.out.grew HG3.out, HN.out (HT.out (by first | rfl | trivial))⟩, by simp only [intOf]; omega⟩
          · go_wp2
            go_ret
            exact muchR_true _ (HG.out.trans HG3.out)
        · obtain rfl : i = gr.length := by omega
          have HP2 := Lib.hid (smallE_all HP.out)
          have b0 := (box12 HB.out).lt
          have c11 := (box12 HB.out).a11
          go_wp2
          clear b0 c11
          go_loopw [5] (fun i wr => MqAt w #[.slice A it.length k, .slice B sr.length j, .int .i64 wh.op, .string wh.tab, .string wh.name, .int .i64 wh.t, .int .i64 wh.c, .int .i64 wh.vk, .int .i64 wh.vi, .string wh.vs, .slice C wh.l.length c, .slice D gr.length d] sr.length (smallF sr) i wr) (fun i _ => sr.length - (intOf i).toNat)
          case atStart => exact ⟨0, Nat.zero_le _, rfl, HG.out, HB.out, by simp [smallF]⟩
          case round =>
            clear HP HG HB RD
            obtain ⟨i, hi, rfl, hg, hb, hp⟩ := hrel
            have HG := Lib.hid hg
            have HB := Lib.hid hb
            have HP := Lib.hid hp
            clear hg hb hp
            by_cases h : i < sr.length
            · obtain ⟨ba, oa, PA, ka, rfl, hpa, h9, e0, e1, e2⟩ := frsR_at RB.out h
              have HC : Hid (∀ W, Grew w W → Calls Try.prog 21 #[exV sr[i].on PA ka] W (MuchR W (sr[i].on.nodes ≤ 200))) := Lib.hid fun W hW => much8_any _ _ _ W (hpa.grew hW)
              have HN := Lib.hid (fun hx => take_all (P := fun x : Fr => x.on.nodes ≤ 200) HP.out h hx)
              have HS : Hid (∀ W, Grew wr W → At9 W ba (oa + i * 12 + 3) sr[i].on PA ka ∧ W.cell? ⟨ba, oa + i * 12 + 1, none⟩ = some (.string sr[i].table) ∧ W.cell? ⟨ba, oa + i * 12 + 2, none⟩ = some (.string sr[i].short)) := Lib.hid fun W hW => by
                have g := HG.out.trans hW
                have h9' := h9.grew g
                obtain ⟨z, rfl⟩ := g
                refine ⟨h9', ?_, ?_⟩
                · rw [more_cell _ _ _ h9.lt]; exact e1
                · rw [more_cell _ _ _ h9.lt]; exact e2
              have HBS := Lib.hid (fun W (hW : Grew wr W) => box12 (HB.out.grew hW))
              clear h9 hpa e0 e1 e2
              generalize sr[i] = x at *
              unfold exV at HC
              obtain ⟨q1, _⟩ := HS.out wr (Grew.refl _)
              obtain ⟨p0, a0, a1, a2, a3, a4, a5, a6, a7, a8⟩ := q1
              have b0 := (box12 HB.out).lt
              have c1 := (box12 HB.out).a1
              go_upto_region 16 with fail
              clear p0 a0 a1 a2 a3 a4 a5 a6 a7 a8 b0 c1
              refine wp_region_S (fun W => Grew wr W) (by kernel_rfl) ?_
              refine held_take 0 (v := ?_) rfl (by kernel_rfl) (by kernel_rfl) (by kernel_rfl) (fun _ _ _ h => h) (by rfl) ?_ (Grew.refl _).drew ?_
              rotate_left
              · (intro W hW; go_simp; with_reducible rfl)
              refine held_norm (a' := ?_) ?_ ?_
              rotate_left
              · (go_simp; with_reducible rfl)
              refine held_take 1 (v := ?_) rfl (by kernel_rfl) (by kernel_rfl) (by kernel_rfl) (fun _ _ _ h => h) (by rfl) ?_ (Grew.refl _).drew ?_
              rotate_left
              · (intro W hW; obtain ⟨⟨_, q0, q1, q2, q3, q4, q5, q6, q7, q8⟩, qt, qs⟩ := HS.out W hW; have r1 := (HBS.out W hW).a1; have r0 := (HBS.out W hW).lt; go_simp; with_reducible rfl)
              refine held_norm (a' := ?_) ?_ ?_
              rotate_left
              · (go_simp; with_reducible rfl)
              refine held_take 2 (v := ?_) rfl (by kernel_rfl) (by kernel_rfl) (by kernel_rfl) (fun _ _ _ h => h) (by rfl) ?_ (Grew.refl _).drew ?_
              rotate_left
              · (intro W hW; go_simp; with_reducible rfl)
              refine held_norm (a' := ?_) ?_ ?_
              rotate_left
              · (go_simp; with_reducible rfl)
              refine held_take 3 (v := ?_) rfl (by kernel_rfl) (by kernel_rfl) (by kernel_rfl) (fun _ _ _ h => h) (by rfl) ?_ (Grew.refl _).drew ?_
              rotate_left
              · (intro W hW; go_simp; with_reducible rfl)
              refine held_norm (a' := ?_) ?_ ?_
              rotate_left
              · (go_simp; with_reducible rfl)
              refine held_take 4 (v := ?_) rfl (by kernel_rfl) (by kernel_rfl) (by kernel_rfl) (fun _ _ _ h => h) (by rfl) ?_ (Grew.refl _).drew ?_
              rotate_left
              · (intro W hW; go_simp; with_reducible rfl)
              refine held_norm (a' := ?_) ?_ ?_
              rotate_left
              · (go_simp; with_reducible rfl)
              refine held_take 5 (v := ?_) rfl (by kernel_rfl) (by kernel_rfl) (by kernel_rfl) (fun _ _ _ h => h) (by rfl) ?_ (Grew.refl _).drew ?_
              rotate_left
              · (intro W hW; obtain ⟨⟨_, q0, q1, q2, q3, q4, q5, q6, q7, q8⟩, qt, qs⟩ := HS.out W hW; have r1 := (HBS.out W hW).a1; have r0 := (HBS.out W hW).lt; go_simp; with_reducible rfl)
              refine held_norm (a' := ?_) ?_ ?_
              rotate_left
              · (go_simp; with_reducible rfl)
              refine held_call 6 (by kernel_rfl) rfl (by rfl) (fun K hK => ?_)
              go_simp
              refine (HC.out _ (HG.out.trans (Grew.refl wr).drew)).mono ?_
              rintro e w3 ⟨t, rfl, hg3, ht⟩; have HG3 := Lib.hid (Grew.trans (Grew.refl wr).drew hg3); have HT := Lib.hid ht; clear hg3 ht
              go_wp2
              refine hK.out _ _ HG3.out ?_
              clear hK K
              cases t
              ·
                refine held_take 7 (v := ?_) rfl (by kernel_rfl) (by kernel_rfl) (by kernel_rfl) (fun _ _ _ h => h) (by rfl) ?_ HG3.out ?_
                rotate_left
                · (intro W hW; obtain ⟨⟨_, q0, q1, q2, q3, q4, q5, q6, q7, q8⟩, qt, qs⟩ := HS.out W hW; have r1 := (HBS.out W hW).a1; have r0 := (HBS.out W hW).lt; go_simp; with_reducible rfl)
                refine held_norm (a' := ?_) ?_ ?_
                rotate_left
                · (go_simp; with_reducible rfl)
                refine held_take 8 (v := ?_) rfl (by kernel_rfl) (by kernel_rfl) (by kernel_rfl) (fun _ _ _ h => h) (by rfl) ?_ HG3.out ?_
                rotate_left
                · (intro W hW; go_simp; with_reducible rfl)
                refine held_take 10 (v := ?_) rfl (by kernel_rfl) (by kernel_rfl) (by kernel_rfl) (fun _ _ _ h => h) (by rfl) ?_ HG3.out ?_
                rotate_left
                · (intro W hW; go_simp; with_reducible rfl)
                refine held_norm (a' := ?_) ?_ ?_
                rotate_left
                · (go_simp; with_reducible rfl)
                refine held_take 9 (v := ?_) rfl (by kernel_rfl) (by kernel_rfl) (by kernel_rfl) (fun _ _ _ h => h) (by rfl) ?_ HG3.out ?_
                rotate_left
                · (intro W hW; obtain ⟨⟨_, q0, q1, q2, q3, q4, q5, q6, q7, q8⟩, qt, qs⟩ := HS.out W hW; have r1 := (HBS.out W hW).a1; have r0 := (HBS.out W hW).lt; go_simp; with_reducible rfl)
                refine held_norm (a' := ?_) ?_ ?_
                rotate_left
                · (go_simp; with_reducible rfl)
                refine held_take 11 (v := ?_) rfl (by kernel_rfl) (by kernel_rfl) (by kernel_rfl) (fun _ _ _ h => h) (by rfl) ?_ HG3.out ?_
                rotate_left
                · (intro W hW; go_simp; with_reducible rfl)
                refine held_norm (a' := ?_) ?_ ?_
                rotate_left
                · (go_simp; with_reducible rfl)
                refine held_take 12 (v := ?_) rfl (by kernel_rfl) (by kernel_rfl) (by kernel_rfl) (fun _ _ _ h => h) (by rfl) ?_ HG3.out ?_
                rotate_left
                · (intro W hW; go_simp; with_reducible rfl)
                refine held_norm (a' := ?_) ?_ ?_
                rotate_left
                · (go_simp; with_reducible rfl)
                refine held_take 13 (v := ?_) rfl (by kernel_rfl) (by kernel_rfl) (by kernel_rfl) (fun _ _ _ h => h) (by rfl) ?_ HG3.out ?_
                rotate_left
                · (intro W hW; obtain ⟨⟨_, q0, q1, q2, q3, q4, q5, q6, q7, q8⟩, qt, qs⟩ := HS.out W hW; have r1 := (HBS.out W hW).a1; have r0 := (HBS.out W hW).lt; go_simp; with_reducible rfl)
                refine held_norm (a' := ?_) ?_ ?_
                rotate_left
                · (go_simp; with_reducible rfl)
                refine held_take 14 (v := ?_) rfl (by kernel_rfl) (by kernel_rfl) (by kernel_rfl) (fun _ _ _ h => h) (by rfl) ?_ HG3.out ?_
                rotate_left
                · (intro W hW; go_simp; with_reducible rfl)
                refine held_norm (a' := ?_) ?_ ?_
                rotate_left
                · (go_simp; with_reducible rfl)
                refine held_take 15 (v := ?_) rfl (by kernel_rfl) (by kernel_rfl) (by kernel_rfl) (fun _ _ _ h => h) (by rfl) ?_ HG3.out ?_
                rotate_left
                · (intro W hW; go_simp; with_reducible rfl)
                refine held_take 17 (v := ?_) rfl (by kernel_rfl) (by kernel_rfl) (by kernel_rfl) (fun _ _ _ h => h) (by rfl) ?_ HG3.out ?_
                rotate_left
                · (intro W hW; go_simp; with_reducible rfl)
                refine held_norm (a' := ?_) ?_ ?_
                rotate_left
                · (go_simp; with_reducible rfl)
                refine held_take 16 (v := ?_) rfl (by kernel_rfl) (by kernel_rfl) (by kernel_rfl) (fun _ _ _ h => h) (by rfl) ?_ HG3.out ?_
                rotate_left
                · (intro W hW; obtain ⟨⟨_, q0, q1, q2, q3, q4, q5, q6, q7, q8⟩, qt, qs⟩ := HS.out W hW; have r1 := (HBS.out W hW).a1; have r0 := (HBS.out W hW).lt; go_simp; with_reducible rfl)
                refine held_norm (a' := ?_) ?_ ?_
                rotate_left
                · (go_simp; with_reducible rfl)
                refine held_take 18 (v := ?_) rfl (by kernel_rfl) (by kernel_rfl) (by kernel_rfl) (fun _ _ _ h => h) (by rfl) ?_ HG3.out ?_
                rotate_left
                · (intro W hW; go_simp; with_reducible rfl)
                refine held_norm (a' := ?_) ?_ ?_
                rotate_left
                · (go_simp; with_reducible rfl)
                refine held_take 19 (v := ?_) rfl (by kernel_rfl) (by kernel_rfl) (by kernel_rfl) (fun _ _ _ h => h) (by rfl) ?_ HG3.out ?_
                rotate_left
                · (intro W hW; go_simp; with_reducible rfl)
                refine held_norm (a' := ?_) ?_ ?_
                rotate_left
                · (go_simp; with_reducible rfl)
                refine held_take 20 (v := ?_) rfl (by kernel_rfl) (by kernel_rfl) (by kernel_rfl) (fun _ _ _ h => h) (by rfl) ?_ HG3.out ?_
                rotate_left
                · (intro W hW; obtain ⟨⟨_, q0, q1, q2, q3, q4, q5, q6, q7, q8⟩, qt, qs⟩ := HS.out W hW; have r1 := (HBS.out W hW).a1; have r0 := (HBS.out W hW).lt; go_simp; with_reducible rfl)
                refine held_norm (a' := ?_) ?_ ?_
                rotate_left
                · (go_simp; with_reducible rfl)
                refine held_take 21 (v := ?_) rfl (by kernel_rfl) (by kernel_rfl) (by kernel_rfl) (fun _ _ _ h => h) (by rfl) ?_ HG3.out ?_
                rotate_left
                · (intro W hW; go_simp; with_reducible rfl)
                refine held_norm (a' := ?_) ?_ ?_
                rotate_left
                · (go_simp; with_reducible rfl)
                refine held_take 22 (v := ?_) rfl (by kernel_rfl) (by kernel_rfl) (by kernel_rfl) (fun _ _ _ h => h) (by rfl) ?_ HG3.out ?_
                rotate_left
                · (intro W hW; go_simp; with_reducible rfl)
                refine held_norm (a' := ?_) ?_ ?_
                rotate_left
                · (go_simp; with_reducible rfl)
                refine held_take 23 (v := ?_) rfl (by kernel_rfl) (by kernel_rfl) (by kernel_rfl) (fun _ _ _ h => h) (by rfl) ?_ HG3.out ?_
                rotate_left
                · (intro W hW; go_simp; with_reducible rfl)
                refine held_norm (a' := ?_) ?_ ?_
                rotate_left
                · (go_simp; with_reducible rfl)
                refine held_take 24 (v := ?_) rfl (by kernel_rfl) (by kernel_rfl) (by kernel_rfl) (fun _ _ _ h => h) (by rfl) ?_ HG3.out ?_
                rotate_left
                · (intro W hW; go_simp; with_reducible rfl)
                refine held_norm (a' := ?_) ?_ ?_
                rotate_left
                · (go_simp; with_reducible rfl)
                refine held_done (by kernel_rfl) ?_
                go_upto_region 17 with fail
                · go_wp2
                  go_ret
                  exact muchR_true _ (HG.out.trans HG3.out)
                · exact ⟨⟨i + 1, by omega, by go_num, HG.out.trans HG3.out, HB.out.grew HG3.out, HN.out (HT.out (by first | rfl | trivial))⟩, by simp only [intOf]; omega⟩
              ·
                refine held_take 7 (v := ?_) rfl (by kernel_rfl) (by kernel_rfl) (by kernel_rfl) (fun _ _ _ h => h) (by rfl) ?_ HG3.out ?_
                rotate_left
                · (intro W hW; obtain ⟨⟨_, q0, q1, q2, q3, q4, q5, q6, q7, q8⟩, qt, qs⟩ := HS.out W hW; have r1 := (HBS.out W hW).a1; have r0 := (HBS.out W hW).lt; go_simp; with_reducible rfl)
                refine held_norm (a' := ?_) ?_ ?_
                rotate_left
                · (go_simp; with_reducible rfl)
                refine held_skip 8 rfl (by kernel_rfl) (by kernel_rfl) (by kernel_rfl) (fun _ _ _ h => h) (by rfl) HG3.out ?_
                refine held_norm (a' := ?_) ?_ ?_
                rotate_left
                · (go_simp; with_reducible rfl)
                refine held_skip 9 rfl (by kernel_rfl) (by kernel_rfl) (by kernel_rfl) (fun _ _ _ h => h) (by rfl) HG3.out ?_
                refine held_norm (a' := ?_) ?_ ?_
                rotate_left
                · (go_simp; with_reducible rfl)
                refine held_skip 10 rfl (by kernel_rfl) (by kernel_rfl) (by kernel_rfl) (fun _ _ _ h => h) (by rfl) HG3.out ?_
                refine held_norm (a' := ?_) ?_ ?_
                rotate_left
                · (go_simp; with_reducible rfl)
                refine held_skip 11 rfl (by kernel_rfl) (by kernel_rfl) (by kernel_rfl) (fun _ _ _ h => h) (by rfl) HG3.out ?_
                refine held_norm (a' := ?_) ?_ ?_
                rotate_left
                · (go_simp; with_reducible rfl)
                refine held_skip 12 rfl (by kernel_rfl) (by kernel_rfl) (by kernel_rfl) (fun _ _ _ h => h) (by rfl) HG3.out ?_
                refine held_norm (a' := ?_) ?_ ?_
                rotate_left
                · (go_simp; with_reducible rfl)
                refine held_skip 13 rfl (by kernel_rfl) (by kernel_rfl) (by kernel_rfl) (fun _ _ _ h => h) (by rfl) HG3.out ?_
                refine held_norm (a' := ?_) ?_ ?_
                rotate_left
                · (go_simp; with_reducible rfl)
                refine held_skip 14 rfl (by kernel_rfl) (by kernel_rfl) (by kernel_rfl) (fun _ _ _ h => h) (by rfl) HG3.out ?_
                refine held_norm (a' := ?_) ?_ ?_
                rotate_left
                · (go_simp; with_reducible rfl)
                refine held_skip 15 rfl (by kernel_rfl) (by kernel_rfl) (by kernel_rfl) (fun _ _ _ h => h) (by rfl) HG3.out ?_
                refine held_norm (a' := ?_) ?_ ?_
                rotate_left
                · (go_simp; with_reducible rfl)
                refine held_skip 16 rfl (by kernel_rfl) (by kernel_rfl) (by kernel_rfl) (fun _ _ _ h => h) (by rfl) HG3.out ?_
                refine held_norm (a' := ?_) ?_ ?_
                rotate_left
                · (go_simp; with_reducible rfl)
                refine held_skip 17 rfl (by kernel_rfl) (by kernel_rfl) (by kernel_rfl) (fun _ _ _ h => h) (by rfl) HG3.out ?_
                refine held_norm (a' := ?_) ?_ ?_
                rotate_left
                · (go_simp; with_reducible rfl)
                refine held_skip 18 rfl (by kernel_rfl) (by kernel_rfl) (by kernel_rfl) (fun _ _ _ h => h) (by rfl) HG3.out ?_
                refine held_norm (a' := ?_) ?_ ?_
                rotate_left
                · (go_simp; with_reducible rfl)
                refine held_skip 19 rfl (by kernel_rfl) (by kernel_rfl) (by kernel_rfl) (fun _ _ _ h => h) (by rfl) HG3.out ?_
                refine held_norm (a' := ?_) ?_ ?_
                rotate_left
                · (go_simp; with_reducible rfl)
                refine held_skip 20 rfl (by kernel_rfl) (by kernel_rfl) (by kernel_rfl) (fun _ _ _ h => h) (by rfl) HG3.out ?_
                refine held_norm (a' := ?_) ?_ ?_
                rotate_left
                · (go_simp; with_reducible rfl)
                refine held_skip 21 rfl (by kernel_rfl) (by kernel_rfl) (by kernel_rfl) (fun _ _ _ h => h) (by rfl) HG3.out ?_
                refine held_norm (a' := ?_) ?_ ?_
                rotate_left
                · (go_simp; with_reducible rfl)
                refine held_skip 22 rfl (by kernel_rfl) (by kernel_rfl) (by kernel_rfl) (fun _ _ _ h => h) (by rfl) HG3.out ?_
                refine held_norm (a' := ?_) ?_ ?_
                rotate_left
                · (go_simp; with_reducible rfl)
                refine held_skip 23 rfl (by kernel_rfl) (by kernel_rfl) (by kernel_rfl) (fun _ _ _ h => h) (by rfl) HG3.out ?_
                refine held_norm (a' := ?_) ?_ ?_
                rotate_left
                · (go_simp; with_reducible rfl)
                refine held_take 24 (v := ?_) rfl (by kernel_rfl) (by kernel_rfl) (by kernel_rfl) (fun _ _ _ h => h) (by rfl) ?_ HG3.out ?_
                rotate_left
                · (intro W hW; obtain ⟨⟨_, q0, q1, q2, q3, q4, q5, q6, q7, q8⟩, qt, qs⟩ := HS.out W hW; have r1 := (HBS.out W hW).a1; have r0 := (HBS.out W hW).lt; go_simp; with_reducible rfl)
                refine held_norm (a' := ?_) ?_ ?_
                rotate_left
                · (go_simp; with_reducible rfl)
                refine held_done (by kernel_rfl) ?_
                go_wp2
                go_ret
                exact muchR_true _ (HG.out.trans HG3.out)
            · obtain rfl : i = sr.length := by omega
              have HP3 := Lib.hid (smallF_all HP.out)
              have b0 := (box12 HB.out).lt
              have c1 := (box12 HB.out).a1
              go_wp2
              go_ret
              exact muchR_false HG.out ⟨by show it.length ≤ 20; omega, by show sr.length ≤ 12; omega, by show gr.length ≤ 12; omega, HW.out, HP1.out, HP2.out, HP3.out⟩
end Go.Proofs.Ytoaciliojdaoaaa

/- Layer 16: how many tables may be put in any order: the core, by the program and by the document. Condition: a query that lies in memory that is there. -/
namespace Go.Proofs.Ytoaciliojdaoaaa
open Go.RowKit
attribute [local go_sem] more_cell more_frozen more_more more_setCell more_of_drew more_of_drewN lt_more le_more past_cell past_cell2 past_frozen past_frozen2 past_setCell past_setCell2 mid_cell mid_frozen mid_setCell
attribute [local go_sem ↓] Go.wp_at_zero Go.wp_at_succ

def coreGo : List Fr → Nat
  | [] => 0
  | f :: l => if f.join = 1 then 1 + coreGo l else 0
/-- The tables ahead of the first one, behind the first, that does not come by an inner join. -/
def coreN : List Fr → Nat
  | [] => 0
  | _ :: l => 1 + coreGo l
theorem coreGo_at : ∀ (l : List Fr) (n : Nat) (_ : n ≤ l.length) (_ : ∀ i (h : i < l.length), i < n → l[i].join = 1) (_ : n = l.length ∨ ∃ h : n < l.length, ¬ l[n].join = 1), coreGo l = n
  | [], n, hn, _, _ => by simp at hn; subst hn; rfl
  | f :: l, n, hn, h1, h2 => by
    rcases n with _ | n
    · have : ¬ f.join = 1 := by
        rcases h2 with h | ⟨_, h⟩
        · simp at h
        · simpa using h
      simp [coreGo, this]
    · have hf : f.join = 1 := h1 0 (by simp) (by omega)
      have ih := coreGo_at l n (by simpa using hn) (fun i h hi => by have := h1 (i + 1) (by simpa using h) (by omega); exact this) (by
        rcases h2 with h | ⟨h, h'⟩
        · exact Or.inl (by simpa using h)
        · exact Or.inr ⟨by simpa using h, by simpa using h'⟩)
      rw [coreGo, if_pos hf, ih]
      omega
theorem coreN_at (l : List Fr) (n : Nat) (hn : n ≤ l.length) (h1 : ∀ i (h : i < l.length), 0 < i → i < n → l[i].join = 1) (h2 : n = l.length ∨ ∃ h : n < l.length, 0 < n ∧ ¬ l[n].join = 1) : coreN l = n := by
  cases l with
  | nil => simp at hn; subst hn; rfl
  | cons f l =>
    have h0 : 0 < n := by
      rcases h2 with h | ⟨_, h, _⟩
      · rw [h]; simp
      · exact h
    obtain ⟨m, rfl⟩ : ∃ m, n = m + 1 := ⟨n - 1, by omega⟩
    rw [coreN, coreGo_at l m (by simpa using hn) (fun i h hi => by have := h1 (i + 1) (by simpa using h) (by omega) (by omega); exact this) (by
      rcases h2 with h | ⟨h, _, h'⟩
      · exact Or.inl (by simpa using h)
      · exact Or.inr ⟨by simpa using h, by simpa using h'⟩)]
    omega
theorem coreN_le : ∀ l : List Fr, coreN l ≤ l.length := by
  have : ∀ l : List Fr, coreGo l ≤ l.length := by
    intro l
    induction l with
    | nil => exact Nat.le_refl _
    | cons f l ih =>
      rw [coreGo]
      split
      · simp; omega
      · omega
  intro l
  cases l with
  | nil => exact Nat.le_refl _
  | cons f l => rw [coreN]; have := this l; simp; omega
def CoreAt (u : World) (g : Nat) (cs : Array Value) (l : List Fr) (i : Value) (wr : World) : Prop :=
  ∃ j : Nat, j ≤ l.length ∧ i = .int .i64 j ∧ Grew u wr ∧ Blok wr g 29 cs ∧ ∀ q (h : q < l.length), 0 < q → q < j → l[q].join = 1
set_option maxHeartbeats 4000000 in
set_option maxRecDepth 100000 in
theorem rcore_any (it : List Ex) (sr : List Fr) (wh : Ex) (gr : List Ex) (A : Option Addr) (k : Nat) (B : Option Addr) (j : Nat) (C : Option Addr) (c : Nat) (D : Option Addr) (d : Nat) (w : World)
    (hs : sr.length ≤ 1000000) (rB : FrsR (PRow w) B sr) :
    Gives Try.prog 23 #[.agg (qyC it sr wh gr A k B j C c D d)] w (.int .i64 (coreN sr)) := by
  have RB := Lib.hid rB
  have HE := Lib.hid (coreN_at sr)
  obtain ⟨r, hr⟩ : ∃ r, coreN sr = r := ⟨_, rfl⟩
  rw [hr] at HE ⊢
  clear rB hr
  obtain ⟨W0, hW0⟩ : ∃ W0, W0 = w.alloc (.cells (qyC it sr wh gr A k B j C c D d) 29) := ⟨_, rfl⟩
  have HG0 : Hid (Grew w W0) := Lib.hid (by rw [hW0]; exact (Grew.refl w).alloc _)
  have HB0 : Hid (Blok W0 w.heap.size 29 (qyC it sr wh gr A k B j C c D d)) := Lib.hid (by rw [hW0]; exact Blok.new _ _ _ _ rfl)
  unfold Gives
  unfold qyC at *
  go_enter Try.func23, Try.ntmps23
  go_upto_region 1 with fail
  rw [← hW0]
  clear hW0
  generalize w.heap.size = g at *
  go_wp2
  go_loopw [3] (fun i wr => CoreAt w g #[.slice A it.length k, .slice B sr.length j, .int .i64 wh.op, .string wh.tab, .string wh.name, .int .i64 wh.t, .int .i64 wh.c, .int .i64 wh.vk, .int .i64 wh.vi, .string wh.vs, .slice C wh.l.length c, .slice D gr.length d] sr i wr) (fun i _ => sr.length - (intOf i).toNat)
  case atStart => exact ⟨0, Nat.zero_le _, rfl, HG0.out, HB0.out, fun q h h1 h2 => by omega⟩
  case round =>
    obtain ⟨i, hi, rfl, hg, hb, hk⟩ := hrel
    have HG := Lib.hid hg
    have HB := Lib.hid hb
    have HK := Lib.hid hk
    have b0 := (box12 hb).lt
    have c1 := (box12 hb).a1
    clear hg hb hk HG0 HB0
    by_cases h : i < sr.length
    · obtain ⟨b, o, P, kp, rfl, _, hlb, hc⟩ := frsR_all (RB.out.grew HG.out) h
      have HYes : Hid (0 < i → ¬ sr[i].join = 1 → r = i) := Lib.hid fun h0 h1 => HE.out i (by omega) (fun q hq h2 h3 => HK.out q hq h2 h3) (Or.inr ⟨h, h0, h1⟩)
      have HNo : Hid ((i = 0 ∨ sr[i].join = 1) → ∀ q (hq : q < sr.length), 0 < q → q < i + 1 → sr[q].join = 1) := Lib.hid fun h0 q hq h1 h2 => by
        by_cases hqi : q = i
        · subst hqi
          rcases h0 with h0 | h0
          · omega
          · exact h0
        · exact HK.out q hq h1 (by omega)
      have q0 := hc 0 _ rfl
      rw [Nat.add_zero] at q0
      clear hc HK HE
      generalize sr[i].join = jn at *
      have hcase : (i = 0) ∨ (((i : Int) == 0) = false ∧ jn = 1 ∧ 0 < i) ∨ (((i : Int) == 0) = false ∧ (jn == 1) = false ∧ ¬ jn = 1 ∧ 0 < i) := by
        by_cases h0 : i = 0
        · exact Or.inl h0
        · by_cases h1 : jn = 1
          · exact Or.inr (Or.inl ⟨by simpa using h0, h1, by omega⟩)
          · exact Or.inr (Or.inr ⟨by simpa using h0, by simpa using h1, h1, by omega⟩)
      rcases hcase with h0 | ⟨h0, h1, h2⟩ | ⟨h0, h1, h2, h3⟩
      · have HN := Lib.hid (HNo.out (Or.inl h0))
        have h0' : ((i : Int) == 0) = true := by rw [h0]; rfl
        clear HYes HNo h0
        go_wp2
        exact ⟨⟨i + 1, by omega, by go_num, HG.out, HB.out, HN.out⟩, by simp only [intOf]; omega⟩
      · have HN := Lib.hid (HNo.out (Or.inr h1))
        subst h1
        clear HYes HNo h2
        go_wp2
        exact ⟨⟨i + 1, by omega, by go_num, HG.out, HB.out, HN.out⟩, by simp only [intOf]; omega⟩
      · obtain rfl := HYes.out h3 h2
        clear HNo h2 HYes h3
        go_wp2
        go_ret
        exact ⟨rfl, HG.out⟩
    · obtain rfl : i = sr.length := by omega
      have hr : r = sr.length := HE.out _ (Nat.le_refl _) (fun q hq h2 h3 => HK.out q hq h2 h3) (Or.inl rfl)
      subst hr
      clear HE HK
      go_wp2
      go_ret
      exact ⟨rfl, HG.out⟩
end Go.Proofs.Ytoaciliojdaoaaa

/- Numbers of 128 bits as two halves of an integer; sums, differences and products of them. Plain arithmetic. -/
namespace Go.Proofs.Ytoaciliojdaoaaa
open Go.RowKit

/-- The low half and the high half of an integer, as numbers of 64 bits. -/
def L (z : Int) : Int := z % 18446744073709551616
def H (z : Int) : Int := z / 18446744073709551616 % 18446744073709551616
/-- The carry of two low halves; the borrow. -/
def Cy (x y : Int) : Int := (L x + L y) / 18446744073709551616
def Bw (x y : Int) : Int := if L x < L y then 1 else 0
/-- The high half of the product of two low halves. -/
def Mh (a b : Int) : Int := L a * L b / 18446744073709551616
/-- Does it fit 64 bits, signed? -/
def fits (z : Int) : Bool := decide (-9223372036854775808 ≤ z) && decide (z ≤ 9223372036854775807)
def fitV (z : Int) : Int := if fits z then z else 0
/-- A number of 64 bits, signed. -/
def isI (z : Int) : Prop := -9223372036854775808 ≤ z ∧ z ≤ 9223372036854775807

theorem L_lo (z : Int) : 0 ≤ L z := by unfold L; omega
theorem L_hi (z : Int) : L z < 18446744073709551616 := by unfold L; omega
theorem H_lo (z : Int) : 0 ≤ H z := by unfold H; omega
theorem H_hi (z : Int) : H z < 18446744073709551616 := by unfold H; omega
theorem wrapu (n : Int) : IntKind.u64.wrap n = L n := by
  rw [IntKind.wrap_u64]; unfold L; omega
theorem wrapu_half (n : Int) (h : isI n) : IntKind.u64.wrap (n / 9223372036854775808) = H n := by
  unfold isI at h
  rw [IntKind.wrap_u64]
  unfold H
  omega
theorem L_add (x y : Int) : (L x + L y) % 18446744073709551616 = L (x + y) := by unfold L; omega
theorem H_add (x y : Int) : (H x + H y + Cy x y) % 18446744073709551616 = H (x + y) := by unfold H Cy L; omega
theorem Cy_lo (x y : Int) : 0 ≤ Cy x y := by have := L_lo x; have := L_lo y; unfold Cy; omega
theorem Cy_hi (x y : Int) : Cy x y ≤ 1 := by have := L_hi x; have := L_hi y; unfold Cy; omega
theorem L_sub (x y : Int) : (L x + 18446744073709551616 - L y) % 18446744073709551616 = L (x - y) := by unfold L; omega
theorem H_sub (x y : Int) : (H x + 18446744073709551616 - H y - Bw x y) % 18446744073709551616 = H (x - y) := by
  unfold H Bw L
  split <;> omega
theorem Bw_lo (x y : Int) : 0 ≤ Bw x y := by unfold Bw; split <;> omega
theorem Bw_hi (x y : Int) : Bw x y ≤ 1 := by unfold Bw; split <;> omega
theorem L_mul (a b : Int) : L a * L b % 18446744073709551616 = L (a * b) := by
  unfold L
  rw [← Int.mul_emod]
theorem L_of (a : Int) (h : isI a) : L a = if a < 0 then a + 18446744073709551616 else a := by
  unfold isI at h; unfold L; split <;> omega
theorem mul_pp (a b : Int) (ha : isI a) (hb : isI b) (h1 : ¬ a < 0) (h2 : ¬ b < 0) : Mh a b = H (a * b) := by
  have e1 := L_of a ha
  have e2 := L_of b hb
  rw [if_neg h1] at e1
  rw [if_neg h2] at e2
  unfold Mh H
  rw [e1, e2]
  unfold isI at ha hb
  have h3 : a * b ≤ 9223372036854775807 * 9223372036854775807 := Int.mul_le_mul ha.2 hb.2 (by omega) (by omega)
  have h4 : 0 ≤ a * b := Int.mul_nonneg (by omega) (by omega)
  generalize a * b = z at *
  omega
theorem mul_np (a b : Int) (ha : isI a) (hb : isI b) (h1 : a < 0) (h2 : ¬ b < 0) : IntKind.u64.wrap (Mh a b - L b) = H (a * b) := by
  have e1 := L_of a ha
  have e2 := L_of b hb
  rw [if_pos h1] at e1
  rw [if_neg h2] at e2
  rw [IntKind.wrap_u64]
  unfold Mh H
  rw [e1, e2, Int.add_mul, Int.mul_comm 18446744073709551616 b, Int.add_mul_ediv_right _ _ (by omega)]
  omega
theorem mul_pn (a b : Int) (ha : isI a) (hb : isI b) (h1 : ¬ a < 0) (h2 : b < 0) : IntKind.u64.wrap (Mh a b - L a) = H (a * b) := by
  have e1 := L_of a ha
  have e2 := L_of b hb
  rw [if_neg h1] at e1
  rw [if_pos h2] at e2
  rw [IntKind.wrap_u64]
  unfold Mh H
  rw [e1, e2, Int.mul_add, Int.add_mul_ediv_right _ _ (by omega)]
  omega
theorem mul_nn (a b : Int) (ha : isI a) (hb : isI b) (h1 : a < 0) (h2 : b < 0) : IntKind.u64.wrap (IntKind.u64.wrap (Mh a b - L b) - L a) = H (a * b) := by
  have e1 := L_of a ha
  have e2 := L_of b hb
  rw [if_pos h1] at e1
  rw [if_pos h2] at e2
  rw [IntKind.wrap_u64, IntKind.wrap_u64]
  unfold Mh H
  rw [e1, e2]
  have e3 : (a + 18446744073709551616) * (b + 18446744073709551616) = a * b + (a + b + 18446744073709551616) * 18446744073709551616 := by
    rw [Int.add_mul, Int.mul_add, Int.mul_add]
    generalize a * b = z
    omega
  rw [e3, Int.add_mul_ediv_right _ _ (by omega)]
  generalize a * b = z
  omega
/-- An integer of not much more than 127 bits. -/
def isW (z : Int) : Prop := -170141183460469231731687303715884105728 ≤ z ∧ z < 170141183460469231731687303715884105728
theorem narrow_yes (z : Int) (h : fits z = true) : wrap64 (L z) = z := by
  simp only [fits, Bool.and_eq_true, decide_eq_true_eq] at h
  unfold wrap64 L
  omega
theorem narrow_no (z : Int) (hz : isW z) (h : fits z = false) : ¬ H (wrap64 (L z)) = H z := by
  have h' : z < -9223372036854775808 ∨ 9223372036854775807 < z := by
    by_cases h1 : -9223372036854775808 ≤ z
    · by_cases h2 : z ≤ 9223372036854775807
      · simp [fits, h1, h2] at h
      · omega
    · omega
  unfold isW at hz
  unfold H wrap64 L
  omega
theorem wrap_isI (z : Int) : isI (wrap64 z) := by unfold isI wrap64; omega
theorem fit_add (a b : Int) (ha : isI a) (hb : isI b) : fits (a + b) = !((decide (0 < b) && decide (9223372036854775807 - b < a)) || (decide (b < 0) && decide (a < -9223372036854775808 - b))) := by
  unfold isI at ha hb
  rw [Bool.eq_iff_iff]
  simp only [fits, Bool.and_eq_true, decide_eq_true_eq, Bool.not_eq_true', Bool.or_eq_false_iff, Bool.and_eq_false_iff, decide_eq_false_iff_not]
  omega
theorem fit_sub (a b : Int) (ha : isI a) (hb : isI b) : fits (a - b) = !((decide (b < 0) && decide (9223372036854775807 + b < a)) || (decide (0 < b) && decide (a < -9223372036854775808 + b))) := by
  unfold isI at ha hb
  rw [Bool.eq_iff_iff]
  simp only [fits, Bool.and_eq_true, decide_eq_true_eq, Bool.not_eq_true', Bool.or_eq_false_iff, Bool.and_eq_false_iff, decide_eq_false_iff_not]
  omega
theorem isI_isW {a : Int} (h : isI a) : isW a := by unfold isI at h; unfold isW; omega
theorem isW_add {a b : Int} (ha : isI a) (hb : isI b) : isW (a + b) := by unfold isI at ha hb; unfold isW; omega
theorem isW_sub {a b : Int} (ha : isI a) (hb : isI b) : isW (a - b) := by unfold isI at ha hb; unfold isW; omega
theorem isW_mul {a b : Int} (ha : isI a) (hb : isI b) : isW (a * b) := by
  unfold isI at ha hb
  have h1 : (a * b).natAbs ≤ 9223372036854775808 * 9223372036854775808 := by
    rw [Int.natAbs_mul]
    exact Nat.mul_le_mul (by omega) (by omega)
  unfold isW
  generalize a * b = z at *
  omega
theorem isI_of_wf {a : Int} (h : (Lit.int .i64 a).wf = true) : isI a := by
  have := Go.bounds_i64 h
  unfold isI
  omega
end Go.Proofs.Ytoaciliojdaoaaa

/- Layer 3's functions and the document's own answers for it: what each call returns. Conditions: numbers of 64 bits where it says so. -/
namespace Go.Proofs.Ytoaciliojdaoaaa
open Go.RowKit
attribute [local go_sem] more_cell more_frozen more_more more_size more_setCell
attribute [local go_sem ↓] Go.wp_at_zero Go.wp_at_succ

end Go.Proofs.Ytoaciliojdaoaaa

/- Layer 3: both numbers together, one less the other, one times the other; values by a sign. Condition: numbers of 64 bits. -/
namespace Go.Proofs.Ytoaciliojdaoaaa
open Go.RowKit
attribute [local go_sem] more_cell more_frozen more_more more_size more_setCell
attribute [local go_sem ↓] Go.wp_at_zero Go.wp_at_succ

theorem ret_fit {z n : Int} (h : fits z = true) (e : n = z) : Ending.returned (.tuple #[.int .i64 n, .bool true]) = .returned (.tuple #[.int .i64 (fitV z), .bool (fits z)]) := by
  unfold fitV
  rw [if_pos h, h, e]
theorem ret_nofit {z : Int} (h : fits z = false) : Ending.returned (.tuple #[.int .i64 0, .bool false]) = .returned (.tuple #[.int .i64 (fitV z), .bool (fits z)]) := by
  unfold fitV
  rw [h]
  rfl
theorem fits_iff (z : Int) : fits z = true ↔ isI z := by unfold fits isI; simp
theorem fits_no (z : Int) (h : ¬ isI z) : fits z = false := by
  cases hf : fits z
  · rfl
  · exact absurd ((fits_iff z).1 hf) h
theorem wrap_fit {z : Int} (h : isI z) : wrap64 z = z := by unfold isI at h; unfold wrap64; omega
theorem quo_ok {a b : Int} (h0 : b ≠ 0) : (a * b).tdiv b = a ∧ (a * b).tmod b = 0 := ⟨Int.mul_tdiv_cancel a h0, Int.mul_tmod_left a b⟩
theorem quo_self {b : Int} (h0 : b ≠ 0) : b.tdiv b = 1 := Int.tdiv_self h0
theorem quo_neg {b : Int} (h0 : b ≠ 0) : (-b).tdiv b = -1 := by rw [Int.neg_tdiv, Int.tdiv_self h0]
/-- A product that does not fit, cut to 64 bits: the quotient or the rest tells. -/
theorem quo_no {a b : Int} (hz : ¬ isI (a * b)) (h : (wrap64 (a * b)).tdiv b = a) : ((wrap64 (a * b)).tmod b != 0) = true := by
  rw [bne_iff_ne]
  intro h2
  have h3 := Int.mul_tdiv_add_tmod (wrap64 (a * b)) b
  rw [h, h2, Int.add_zero, Int.mul_comm] at h3
  have h4 := wrap_isI (a * b)
  rw [← h3] at h4
  exact hz h4
theorem tdiv_isI {n b : Int} (hn : isI n) (hb : ¬ b = -1) : wrap64 (n.tdiv b) = n.tdiv b := by
  apply wrap_fit
  unfold isI at hn ⊢
  by_cases h0 : b = 0
  · subst h0
    simp
  · have h1 : (n.tdiv b).natAbs ≤ n.natAbs := by
      rw [Int.natAbs_tdiv]
      exact Nat.div_le_self _ _
    by_cases h2 : n = -9223372036854775808
    · by_cases h3 : b = 1
      · subst h3
        simp
        omega
      · have h4 : (n.tdiv b).natAbs ≤ n.natAbs / 2 := by
          rw [Int.natAbs_tdiv]
          exact Nat.div_le_div_left (by omega) (by omega)
        omega
    · omega
end Go.Proofs.Ytoaciliojdaoaaa

/- Layer 3: values by a sign, and sums: what each call returns. Condition: numbers of 64 bits. -/
namespace Go.Proofs.Ytoaciliojdaoaaa
open Go.RowKit
attribute [local go_sem] more_cell more_frozen more_more more_size more_setCell
attribute [local go_sem ↓] Go.wp_at_zero Go.wp_at_succ

def byI (op a b : Int) : Int := if op = 7 then a + b else if op = 8 then a - b else a * b
def recB (op : Int) : Bool := op == 7 || op == 8 || op == 9
def numB (k : Int) : Bool := k == 1 || k == 0
/-- What a sign makes of two values: its kind, its number, the error. -/
def doOk (op k k' : Int) : Bool := recB op && (numB k && numB k')
def doNull (k k' : Int) : Bool := k == 0 || k' == 0
def doK (op k i k' i' : Int) : Int := if doOk op k k' && (!doNull k k' && fits (byI op i i')) then 1 else 0
def doI (op k i k' i' : Int) : Int := if doOk op k k' && (!doNull k k' && fits (byI op i i')) then byI op i i' else 0
def doE (op k i k' i' : Int) : Int := if doOk op k k' then (if doNull k k' then 0 else if fits (byI op i i') then 0 else 5) else 3

theorem num_cases {k : Int} (h : numB k = true) : k = 1 ∨ k = 0 := by simpa [numB] using h
/-- The five ways through. -/
inductive DoWay (op k i k' i' : Int) : Prop where
  | op : recB op = false → DoWay op k i k' i'
  | left : recB op = true → numB k = false → DoWay op k i k' i'
  | right : recB op = true → numB k = true → numB k' = false → DoWay op k i k' i'
  | none0 : recB op = true → k = 0 → numB k' = true → DoWay op k i k' i'
  | none1 : recB op = true → k = 1 → k' = 0 → DoWay op k i k' i'
  | some : recB op = true → k = 1 → k' = 1 → DoWay op k i k' i'
theorem do_way (op k i k' i' : Int) : DoWay op k i k' i' := by
  cases h1 : recB op
  · exact .op h1
  · cases h2 : numB k
    · exact .left h1 h2
    · cases h3 : numB k'
      · exact .right h1 h2 h3
      · rcases num_cases h2 with h | h
        · rcases num_cases h3 with h' | h'
          · exact .some h1 h h'
          · exact .none1 h1 h h'
        · exact .none0 h1 h h3
def doV (a b c : Int) : Value := .tuple #[.agg #[.int .i64 a, .int .i64 b, .string ⟨#[]⟩], .int .i64 c]
end Go.Proofs.Ytoaciliojdaoaaa

/- Layer 2's functions and the document's own answers for it: what each call returns. No condition but that a slice of numbers lies in memory that is there. -/
namespace Go.Proofs.Ytoaciliojdaoaaa
open Go.RowKit
attribute [local go_sem] more_cell more_frozen more_more more_size more_setCell
attribute [local go_sem ↓] Go.wp_at_zero Go.wp_at_succ

/-- A truth that is one; the other one; two together. -/
def heldT (a : Int) : Int := if a = 0 then 0 else if a = 1 then 1 else 2
def notT (a : Int) : Int := if a = 0 then 1 else if a = 1 then 0 else 2
def andT (a b : Int) : Int := if a = 0 then 0 else if b = 0 then 0 else if a = 1 then (if b = 1 then 1 else 2) else 2
def orT (a b : Int) : Int := if a = 1 then 1 else if b = 1 then 1 else if a = 0 then (if b = 0 then 0 else 2) else 2
def ofT (b : Bool) : Int := if b then 1 else 0
def andL (l : List Int) : Int := l.foldl andT 1
def orL (l : List Int) : Int := l.foldl orT 0

def rightT (a : Int) : Bool := a == 0 || a == 1 || a == 2
theorem heldT_cases (a : Int) : heldT a = 0 ∧ a = 0 ∨ heldT a = 1 ∧ a = 1 ∨ heldT a = 2 ∧ a ≠ 0 ∧ a ≠ 1 := by
  unfold heldT
  by_cases h0 : a = 0
  · simp [h0]
  · by_cases h1 : a = 1
    · simp [h1]
    · simp [h0, h1]
end Go.Proofs.Ytoaciliojdaoaaa

/- Layer 2's functions over slices of truths, and the tests of values by signs: what each call returns. Condition: a slice of numbers lies in memory that is there, a text is no longer than a length may be. -/
namespace Go.Proofs.Ytoaciliojdaoaaa
open Go.RowKit
attribute [local go_sem] more_cell more_frozen more_more more_size more_setCell
attribute [local go_sem ↓] Go.wp_at_zero Go.wp_at_succ

theorem take_one {α : Type} (l : List α) (k : Nat) (h : k < l.length) : l.take (k + 1) = l.take k ++ [l[k]] := by
  rw [List.take_succ_eq_append_getElem h]
theorem andL_take (l : List Int) (k : Nat) (h : k < l.length) : andL (l.take (k + 1)) = andT (andL (l.take k)) l[k] := by
  unfold andL
  rw [take_one l k h, List.foldl_append]
  rfl
theorem orL_take (l : List Int) (k : Nat) (h : k < l.length) : orL (l.take (k + 1)) = orT (orL (l.take k)) l[k] := by
  unfold orL
  rw [take_one l k h, List.foldl_append]
  rfl
theorem and_zero : ∀ l : List Int, l.foldl andT 0 = 0
  | [] => rfl
  | x :: l => by
    show l.foldl andT (andT 0 x) = 0
    have e : andT 0 x = 0 := by simp [andT]
    rw [e]
    exact and_zero l
theorem or_one : ∀ l : List Int, l.foldl orT 1 = 1
  | [] => rfl
  | x :: l => by
    show l.foldl orT (orT 1 x) = 1
    have e : orT 1 x = 1 := by simp [orT]
    rw [e]
    exact or_one l
theorem andL_stop (l : List Int) (k : Nat) (h : k < l.length) (hx : l[k] = 0) : andL l = 0 := by
  have e : andL (l.take (k + 1)) = 0 := by
    rw [andL_take l k h, hx]
    unfold andT
    split <;> rfl
  unfold andL at e ⊢
  conv => lhs; rw [← List.take_append_drop (k + 1) l, List.foldl_append]
  rw [e]
  exact and_zero _
theorem orL_stop (l : List Int) (k : Nat) (h : k < l.length) (hx : l[k] = 1) : orL l = 1 := by
  have e : orL (l.take (k + 1)) = 1 := by
    rw [orL_take l k h, hx]
    unfold orT
    split <;> simp
  unfold orL at e ⊢
  conv => lhs; rw [← List.take_append_drop (k + 1) l, List.foldl_append]
  rw [e]
  exact or_one _
def AndAt (l : List Int) (a i : Value) : Prop := ∃ (k : Nat) (x : Int), k ≤ l.length ∧ i = .int .i64 k ∧ a = .int .i64 x ∧ andL (l.take k) = x ∧ (x = 1 ∨ x = 2)
def OrAt2 (l : List Int) (a i : Value) : Prop := ∃ (k : Nat) (x : Int), k ≤ l.length ∧ i = .int .i64 k ∧ a = .int .i64 x ∧ orL (l.take k) = x ∧ (x = 0 ∨ x = 2)

def RAndAt (f : List Int → Int) (l : List Int) (w : World) (a i : Value) (wr : World) : Prop := ∃ (k : Nat), k ≤ l.length ∧ i = .int .i64 k ∧ a = .int .i64 (f (l.take k)) ∧ Grew w wr
end Go.Proofs.Ytoaciliojdaoaaa

/- Layer 2: two values tested by a sign; the laws' walks. Condition: a text is no longer than a length may be, a slice of numbers lies in memory that is there. -/
namespace Go.Proofs.Ytoaciliojdaoaaa
open Go.RowKit
attribute [local go_sem] more_cell more_frozen more_more more_size more_setCell
attribute [local go_sem ↓] Go.wp_at_zero Go.wp_at_succ

theorem ordI_three (a b : Int) : ordI a b = -1 ∨ ordI a b = 0 ∨ ordI a b = 1 := by
  unfold ordI
  split
  · exact Or.inl rfl
  · split
    · exact Or.inr (Or.inr rfl)
    · exact Or.inr (Or.inl rfl)
theorem ordI_swap (a b : Int) : ordI b a = -ordI a b := by
  unfold ordI
  split <;> split <;> (try split) <;> omega
theorem cmp_three : ∀ a b : List UInt8, Lib.compareBytes a b = -1 ∨ Lib.compareBytes a b = 0 ∨ Lib.compareBytes a b = 1
  | [], [] => by simp [Lib.compareBytes]
  | [], _ :: _ => by simp [Lib.compareBytes]
  | _ :: _, [] => by simp [Lib.compareBytes]
  | a :: x, b :: y => by
    rw [cmp_cons]
    split
    · exact Or.inl rfl
    · split
      · exact Or.inr (Or.inr rfl)
      · exact cmp_three x y
theorem cmp_swap : ∀ a b : List UInt8, Lib.compareBytes b a = -Lib.compareBytes a b
  | [], [] => by simp [Lib.compareBytes]
  | [], _ :: _ => by simp [Lib.compareBytes]
  | _ :: _, [] => by simp [Lib.compareBytes]
  | a :: x, b :: y => by
    rw [cmp_cons, cmp_cons, cmp_swap x y]
    by_cases h1 : a < b
    · have h2 : ¬ b < a := by rw [UInt8.lt_iff_toNat_lt] at h1 ⊢; omega
      rw [if_neg h2, if_pos h1, if_pos h1]
      rfl
    · by_cases h2 : b < a
      · rw [if_pos h2, if_neg h1, if_pos h2]
      · rw [if_neg h2, if_neg h1, if_neg h1, if_neg h2]
theorem ordV_three (k i : Int) (s : ByteArray) (k' i' : Int) (s' : ByteArray) : ordV k i s k' i' s' = -1 ∨ ordV k i s k' i' s' = 0 ∨ ordV k i s k' i' s' = 1 := by
  unfold ordV
  split
  · split
    · exact cmp_three _ _
    · exact ordI_three _ _
  · exact ordI_three _ _
theorem ordV_swap (k i : Int) (s : ByteArray) (k' i' : Int) (s' : ByteArray) : ordV k' i' s' k i s = -ordV k i s k' i' s' := by
  unfold ordV
  by_cases hk : k = k'
  · subst hk
    rw [if_pos rfl, if_pos rfl]
    by_cases hi : i = i'
    · subst hi
      rw [if_pos rfl, if_pos rfl]
      exact cmp_swap _ _
    · rw [if_neg hi, if_neg (Ne.symm hi)]
      exact ordI_swap _ _
  · rw [if_neg hk, if_neg (Ne.symm hk)]
    exact ordI_swap _ _
theorem cmpB_swap (k k' : Int) : cmpB k' k = cmpB k k' := by
  unfold cmpB
  rw [Bool.eq_iff_iff]
  simp only [Bool.and_eq_true, beq_iff_eq, Bool.or_eq_true]
  constructor <;> (intro h; omega)
theorem cmpN_swap (k i : Int) (s : ByteArray) (k' i' : Int) (s' : ByteArray) : cmpN k' i' s' k i s = -cmpN k i s k' i' s' := by
  unfold cmpN
  rw [cmpB_swap]
  cases cmpB k k'
  · rfl
  · exact ordV_swap _ _ _ _ _ _
theorem cmpN_three (k i : Int) (s : ByteArray) (k' i' : Int) (s' : ByteArray) : cmpN k i s k' i' s' = -1 ∨ cmpN k i s k' i' s' = 0 ∨ cmpN k i s k' i' s' = 1 := by
  unfold cmpN
  cases cmpB k k'
  · exact Or.inr (Or.inl rfl)
  · exact ordV_three _ _ _ _ _ _

def eqT (b : Bool) (c : Int) : Int := if b then ofT (c == 0) else 2
def ltT (b : Bool) (c : Int) : Int := if b then ofT (decide (c < 0)) else 2
/-- The truth of a sign between two values that compare so. -/
def testT (op : Int) (b : Bool) (c : Int) : Int :=
  if op = 1 then eqT b c else if op = 2 then notT (eqT b c) else if op = 3 then ltT b c else if op = 4 then orL [ltT b c, eqT b c] else if op = 5 then ltT b (-c) else if op = 6 then notT (ltT b c) else 2
theorem lrow_two (w : World) (a b : Int) (B : Nat) (hB : B < w.heap.size) (h0 : w.cell? ⟨B, 0, none⟩ = some (.int .i64 a)) (h1 : w.cell? ⟨B, 1, none⟩ = some (.int .i64 b)) : Row w (some ⟨B, 0, none⟩) ([a, b].map (Value.int .i64)) := by
  refine Or.inr ⟨B, 0, rfl, hB, fun j u hu => ?_⟩
  match j, hu with
  | 0, hu => simp at hu; subst hu; exact h0
  | 1, hu => simp at hu; subst hu; exact h1
end Go.Proofs.Ytoaciliojdaoaaa

/- Layer 13: what expressions are, of rows: plain mathematics. No condition. -/
namespace Go.Proofs.Ytoaciliojdaoaaa
open Go.RowKit

def zV : Vl := ⟨0, 0, ⟨#[]⟩⟩
def vlV (x : Vl) : Value := .agg #[.int .i64 x.k, .int .i64 x.i, .string x.s]
def atE (env : List (List Vl)) (t c : Int) : Vl := if 0 ≤ t ∧ t < env.length ∧ 0 ≤ c ∧ c < (env.getD t.toNat []).length then (env.getD t.toNat []).getD c.toNat zV else zV
theorem atE_in {env : List (List Vl)} {t c : Nat} (ht : t < env.length) (hc : c < env[t].length) : atE env t c = env[t][c] := by
  unfold atE
  have e : env.getD (t : Int).toNat [] = env[t] := by simp [List.getD, ht]
  rw [e, if_pos ⟨by omega, by omega, by omega, by omega⟩]
  simp [List.getD, hc]
theorem atE_out {env : List (List Vl)} {t c : Int} (h : ¬ (0 ≤ t ∧ t < env.length ∧ 0 ≤ c ∧ c < (env.getD t.toNat []).length)) : atE env t c = zV := if_neg h
theorem zV_ok : VlOk zV := ⟨by decide, by decide, by show (0 : Nat) ≤ _; omega⟩
theorem atE_ok {env : List (List Vl)} (h : RwsOk env) (t c : Int) : VlOk (atE env t c) := by
  by_cases hc : 0 ≤ t ∧ t < env.length ∧ 0 ≤ c ∧ c < (env.getD t.toNat []).length
  · obtain ⟨h1, h2, h3, h4⟩ := hc
    obtain ⟨t, rfl⟩ : ∃ n : Nat, t = n := ⟨t.toNat, by omega⟩
    obtain ⟨c, rfl⟩ : ∃ n : Nat, c = n := ⟨c.toNat, by omega⟩
    have ht : t < env.length := by omega
    have e : env.getD (t : Int).toNat [] = env[t] := by simp [List.getD, ht]
    rw [e] at h4
    have hc : c < env[t].length := by omega
    rw [atE_in ht hc]
    exact (h.2 _ (List.getElem_mem ht)).2 _ (List.getElem_mem hc)
  · rw [atE_out hc]; exact zV_ok
def doP (op : Int) (x y : Vl) : Vl × Int := (⟨doK op x.k x.i y.k y.i, doI op x.k x.i y.k y.i, ⟨#[]⟩⟩, doE op x.k x.i y.k y.i)
theorem isI_wf {a : Int} (h : isI a) : (Lit.int .i64 a).wf = true := by
  obtain ⟨h1, h2⟩ := h
  simp [Lit.wf, IntKind.min, IntKind.max, IntKind.bits, IntKind.signed]
  omega
theorem doP_ok (op : Int) (x y : Vl) : VlOk (doP op x y).1 := by
  refine ⟨?_, isI_wf ?_, by show (0 : Nat) ≤ _; omega⟩
  · show (Lit.int .i64 (doK op x.k x.i y.k y.i)).wf = true
    unfold doK
    split <;> decide
  · show isI (doI op x.k x.i y.k y.i)
    unfold doI
    split
    · rename_i h
      simp only [Bool.and_eq_true] at h
      have := h.2.2
      unfold fits at this
      simp only [Bool.and_eq_true, decide_eq_true_eq] at this
      exact this
    · unfold isI; omega
/-- What two values, or what they are told instead, come to. -/
def sidesP (op : Int) (a b : Vl × Int) : Vl × Int := if ¬ a.2 = 0 then (zV, a.2) else if ¬ b.2 = 0 then (zV, b.2) else doP op a.1 b.1
def evalV (env : List (List Vl)) : Ex → Vl × Int
  | .mk op _ _ t c vk vi vs l =>
    if op = 15 then (atE env t c, 0) else if op = 16 then (⟨vk, vi, vs⟩, 0) else if op < 7 ∨ 9 < op then (zV, 3) else
    match l with
    | [a, b] => sidesP op (evalV env a) (evalV env b)
    | _ => (zV, 3)
termination_by e => SizeOf.sizeOf e
decreasing_by all_goals (simp; omega)
theorem evalV_col {env : List (List Vl)} {e : Ex} (h : e.op = 15) : evalV env e = (atE env e.t e.c, 0) := by
  cases e; simp only [Ex.op] at h; rw [evalV.eq_def]; simp [h, Ex.t, Ex.c]
theorem evalV_val {env : List (List Vl)} {e : Ex} (h : e.op = 16) : evalV env e = (⟨e.vk, e.vi, e.vs⟩, 0) := by
  cases e; simp only [Ex.op] at h; rw [evalV.eq_def]; simp [h, Ex.vk, Ex.vi, Ex.vs]
theorem evalV_other {env : List (List Vl)} {e : Ex} (h15 : ¬ e.op = 15) (h16 : ¬ e.op = 16) (h : e.op < 7 ∨ 9 < e.op) : evalV env e = (zV, 3) := by
  cases e; simp only [Ex.op] at h h15 h16; rw [evalV.eq_def]; simp [h, h15, h16]
theorem evalV_two {env : List (List Vl)} {e : Ex} (h1 : 7 ≤ e.op) (h2 : e.op ≤ 9) (hl : e.l.length = 2) : evalV env e = sidesP e.op (evalV env (e.l[0]'(by omega))) (evalV env (e.l[1]'(by omega))) := by
  obtain ⟨op, tab, name, t, c, vk, vi, vs, l⟩ := e
  simp only [Ex.op, Ex.l] at h1 h2 hl ⊢
  match l, hl with
  | [a, b], _ =>
    rw [evalV.eq_def]
    have e1 : ¬ op = 15 := by omega
    have e2 : ¬ op = 16 := by omega
    have e3 : ¬ (op < 7 ∨ 9 < op) := by omega
    simp [e1, e2, e3]
theorem evalV_not {env : List (List Vl)} {e : Ex} (h1 : 7 ≤ e.op) (h2 : e.op ≤ 9) (hl : ¬ e.l.length = 2) : evalV env e = (zV, 3) := by
  obtain ⟨op, tab, name, t, c, vk, vi, vs, l⟩ := e
  simp only [Ex.op, Ex.l] at h1 h2 hl ⊢
  rw [evalV.eq_def]
  have e1 : ¬ op = 15 := by omega
  have e2 : ¬ op = 16 := by omega
  have e3 : ¬ (op < 7 ∨ 9 < op) := by omega
  match l, hl with
  | [], _ => simp [e1, e2, e3]
  | [a], _ => simp [e1, e2, e3]
  | [a, b], h => exact absurd rfl h
  | a :: b :: c :: l, _ => simp [e1, e2, e3]
theorem sidesP_ok {op : Int} {a b : Vl × Int} : VlOk (sidesP op a b).1 := by
  unfold sidesP
  split
  · exact zV_ok
  · split
    · exact zV_ok
    · exact doP_ok _ _ _
theorem evalV_ok {env : List (List Vl)} (he : RwsOk env) {e : Ex} (h : ExOk e) : VlOk (evalV env e).1 := by
  by_cases h15 : e.op = 15
  · rw [evalV_col h15]; exact atE_ok he _ _
  · by_cases h16 : e.op = 16
    · rw [evalV_val h16]; exact h.val
    · by_cases ho : e.op < 7 ∨ 9 < e.op
      · rw [evalV_other h15 h16 ho]; exact zV_ok
      · by_cases hl : e.l.length = 2
        · rw [evalV_two (by omega) (by omega) hl]; exact sidesP_ok
        · rw [evalV_not (by omega) (by omega) hl]; exact zV_ok
end Go.Proofs.Ytoaciliojdaoaaa

/- Layer 16: two columns that must be the same, by the program. Condition: an expression that lies in memory that is there. -/
namespace Go.Proofs.Ytoaciliojdaoaaa
open Go.RowKit
attribute [local go_sem] more_cell more_frozen more_more more_setCell more_of_drew more_of_drewN lt_more le_more past_cell past_cell2 past_frozen past_frozen2 past_setCell past_setCell2 mid_cell mid_frozen mid_setCell
attribute [local go_sem ↓] Go.wp_at_zero Go.wp_at_succ

/-- Two columns, by their tables and places. -/
structure Ed where
  a : Int
  ac : Int
  b : Int
  bc : Int
def edC (e : Ed) : Array Value := #[.int .i64 e.a, .int .i64 e.ac, .int .i64 e.b, .int .i64 e.bc]
def edV (e : Ed) : Value := .agg #[.int .i64 e.a, .int .i64 e.ac, .int .i64 e.b, .int .i64 e.bc]
def edgeP (x : Ex) : Ed × Bool :=
  match x.l with
  | [a, b] => if x.op = 1 ∧ a.op = 15 ∧ b.op = 15 ∧ ¬ a.t = b.t then (if a.t < b.t then ⟨a.t, a.c, b.t, b.c⟩ else ⟨b.t, b.c, a.t, a.c⟩, true) else (⟨0, 0, 0, 0⟩, false)
  | _ => (⟨0, 0, 0, 0⟩, false)
theorem edgeP_op {x : Ex} (h : ¬ x.op = 1) : edgeP x = (⟨0, 0, 0, 0⟩, false) := by
  unfold edgeP
  split
  · rw [if_neg (fun e => h e.1)]
  · rfl
theorem edgeP_len {x : Ex} (h : ¬ x.l.length = 2) : edgeP x = (⟨0, 0, 0, 0⟩, false) := by
  unfold edgeP
  split
  · rename_i a b e
    rw [e] at h
    exact absurd rfl h
  · rfl
theorem edgeP_two {x : Ex} (h1 : x.op = 1) (h : x.l.length = 2) : edgeP x =
    if (x.l[0]'(by omega)).op = 15 ∧ (x.l[1]'(by omega)).op = 15 ∧ ¬ (x.l[0]'(by omega)).t = (x.l[1]'(by omega)).t then
      (if (x.l[0]'(by omega)).t < (x.l[1]'(by omega)).t then ⟨(x.l[0]'(by omega)).t, (x.l[0]'(by omega)).c, (x.l[1]'(by omega)).t, (x.l[1]'(by omega)).c⟩ else ⟨(x.l[1]'(by omega)).t, (x.l[1]'(by omega)).c, (x.l[0]'(by omega)).t, (x.l[0]'(by omega)).c⟩, true)
    else (⟨0, 0, 0, 0⟩, false) := by
  obtain ⟨op, tab, name, t, c, vk, vi, vs, l⟩ := x
  simp only [Ex.op, Ex.l] at h1 h
  subst h1
  match l, h with
  | [a, b], _ =>
    unfold edgeP
    show (if (1 : Int) = 1 ∧ a.op = 15 ∧ b.op = 15 ∧ ¬ a.t = b.t then ((if a.t < b.t then ⟨a.t, a.c, b.t, b.c⟩ else ⟨b.t, b.c, a.t, a.c⟩ : Ed), true) else (⟨0, 0, 0, 0⟩, false)) = if a.op = 15 ∧ b.op = 15 ∧ ¬ a.t = b.t then ((if a.t < b.t then ⟨a.t, a.c, b.t, b.c⟩ else ⟨b.t, b.c, a.t, a.c⟩ : Ed), true) else (⟨0, 0, 0, 0⟩, false)
    by_cases hc : a.op = 15 ∧ b.op = 15 ∧ ¬ a.t = b.t
    · rw [if_pos ⟨rfl, hc⟩, if_pos hc]
    · rw [if_neg (fun e => hc e.2), if_neg hc]
theorem ed_in {w : World} {g : Nat} {a0 a1 a2 a3 : Value} (h : Blok w g 68 #[a0, a1, a2, a3]) : g < w.heap.size ∧ w.cell? ⟨g, 0, none⟩ = some a0 ∧ w.cell? ⟨g, 1, none⟩ = some a1 ∧ w.cell? ⟨g, 2, none⟩ = some a2 ∧ w.cell? ⟨g, 3, none⟩ = some a3 ∧ w.frozen? ⟨g, 0, none⟩ = false ∧ w.frozen? ⟨g, 1, none⟩ = false ∧ w.frozen? ⟨g, 2, none⟩ = false ∧ w.frozen? ⟨g, 3, none⟩ = false :=
  ⟨h.lt, h.cell 0, h.cell 1, h.cell 2, h.cell 3, h.thaw 0, h.thaw 1, h.thaw 2, h.thaw 3⟩
theorem ed_set {w : World} {g : Nat} {a0 a1 a2 a3 : Value} (h : Blok w g 68 #[a0, a1, a2, a3]) (b0 b1 b2 b3 : Value) : Blok ((((w.setCell ⟨g, 0, none⟩ b0).setCell ⟨g, 1, none⟩ b1).setCell ⟨g, 2, none⟩ b2).setCell ⟨g, 3, none⟩ b3) g 68 #[b0, b1, b2, b3] := by
  have := (((h.set 0 b0).set 1 b1).set 2 b2).set 3 b3
  simpa using this
theorem grew_set4 {u w : World} (h : Grew u w) {g : Nat} (hg : u.heap.size ≤ g) (b0 b1 b2 b3 : Value) : Grew u ((((w.setCell ⟨g, 0, none⟩ b0).setCell ⟨g, 1, none⟩ b1).setCell ⟨g, 2, none⟩ b2).setCell ⟨g, 3, none⟩ b3) :=
  Grew.setCell (Grew.setCell (Grew.setCell (Grew.setCell h hg _) hg _) hg _) hg _
theorem held_two {P : Program} {ops : Array Oper} {Q : Exit → Act → World → Prop} {wc : World} {S : World → Prop} (i j : Nat) {o o' : Oper} {fuel : Nat} {listed : Array Bool} {a : Act} (hr : Region.ready .any ops listed = [i, j]) (ho : ops[i]? = some o) (ho' : ops[j]? = some o') (hw : Region.wanted o (yielded ops a.tmps) = true) (hw' : Region.wanted o' (yielded ops a.tmps) = true)
    (h : ∀ K' : Act → World → Prop, Hid (∀ a W, S W → wpAnyH P .any ops Q S fuel (listed.setIfInBounds i true) a W → K' a W) → Oper.wp P o a wc K' Q)
    (h' : ∀ K' : Act → World → Prop, Hid (∀ a W, S W → wpAnyH P .any ops Q S fuel (listed.setIfInBounds j true) a W → K' a W) → Oper.wp P o' a wc K' Q) : wpAnyH P .any ops Q S (fuel + 1) listed a wc := by
  refine wpAnyH_ready hr (by simp) (AllReadyH.cons ho (fun K' hK => ?_) (AllReadyH.cons ho' (fun K' hK => ?_) AllReadyH.nil))
  · rw [if_pos hw]
    exact h K' (Lib.hid fun a W hG hW => hK.out a W hG (fun _ => hW))
  · rw [if_pos hw']
    exact h' K' (Lib.hid fun a W hG hW => hK.out a W hG (fun _ => hW))
end Go.Proofs.Ytoaciliojdaoaaa

/- Layer 16: two columns that must be the same, by the document. Condition: an expression that lies in memory that is there. -/
namespace Go.Proofs.Ytoaciliojdaoaaa
open Go.RowKit
attribute [local go_sem] more_cell more_frozen more_more more_setCell more_of_drew more_of_drewN lt_more le_more past_cell past_cell2 past_frozen past_frozen2 past_setCell past_setCell2 mid_cell mid_frozen mid_setCell
attribute [local go_sem ↓] Go.wp_at_zero Go.wp_at_succ

set_option maxHeartbeats 8000000 in
set_option maxRecDepth 100000 in
theorem redge_any (x : Ex) (A : Option Addr) (k : Nat) (w : World) (ra : ExsR (PRow w) A x.l) :
    Gives Try.prog 27 #[exV x A k] w (.tuple #[edV (edgeP x).1, .bool (edgeP x).2]) := by
  obtain ⟨W0, hW0⟩ : ∃ W0, W0 = (w.alloc (.cells (exC x A k).toArray 27)).alloc (.cells #[.int .i64 0, .int .i64 0, .int .i64 0, .int .i64 0] 68) := ⟨_, rfl⟩
  have HG0 : Hid (Grew w W0) := Lib.hid (by rw [hW0]; exact ((Grew.refl w).alloc _).alloc _)
  have HX0 : Hid (Blok W0 w.heap.size 27 (exC x A k).toArray) := Lib.hid (by rw [hW0]; exact (Blok.new _ _ _ _ rfl).alloc _)
  have HR0 : Hid (Blok W0 (w.heap.size + 1) 68 #[.int .i64 0, .int .i64 0, .int .i64 0, .int .i64 0]) := Lib.hid (by rw [hW0]; exact Blok.new _ _ _ _ (by simp))
  have HP : Hid (∀ i (h : i < x.l.length), ∃ b o B k, A = some ⟨b, o, none⟩ ∧ ExsR (PRow W0) B x.l[i].l ∧ At9 W0 b (o + i * 9) x.l[i] B k) := Lib.hid fun i h => exsR_nine (ra.grew HG0.out) h
  clear ra
  have hbad : (x.op ≠ 1 ∨ ¬ x.l.length = 2) → edgeP x = (⟨0, 0, 0, 0⟩, false) := fun h => by
    rcases h with h | h
    · exact edgeP_op h
    · exact edgeP_len h
  obtain ⟨q0, s0, s1, s2, s3, s4, s5, s6, s7, s8⟩ := blok9 HX0.out
  obtain ⟨el, e0, e1, e2, e3, f0, f1, f2, f3⟩ := ed_in HR0.out
  by_cases h1 : x.op = 1
  rotate_left
  · rw [hbad (Or.inl h1)]
    have h1' : (x.op != 1) = true := by simpa using h1
    clear hbad h1 HP
    unfold exV edV
    unfold exC at hW0
    generalize x.l.length = n at *
    unfold Gives
    go_enter Try.func27, Try.ntmps27
    go_upto_region 1 with fail
    rw [← hW0]
    clear hW0
    generalize hgw : w.heap.size = g at *
    have HGW := Lib.hid (Nat.le_of_eq hgw)
    clear hgw
    refine wp_region_more (by kernel_rfl) (by kernel_rfl) ?_
    repeat (go_big_quiet_step ((fail)))
    refine wpQuiet_nil ?_
    rintro _ ⟨z, rfl⟩
    go_wp2
    have hb := (ed_set HR0.out (.int .i64 0) (.int .i64 0) (.int .i64 0) (.int .i64 0)).more z
    obtain ⟨_, r0, r1, r2, r3, _, _, _, _⟩ := ed_in hb
    exact bodyPost_ret (v := .tuple #[.agg #[.int .i64 0, .int .i64 0, .int .i64 0, .int .i64 0], .bool false]) (by simp [results, Try.results27, go_sem, r0, r1, r2, r3]) rfl ⟨rfl, (grew_set4 HG0.out (Nat.le_trans HGW.out (Nat.le_succ g)) _ _ _ _).more z⟩
  by_cases h2 : x.l.length = 2
  rotate_left
  · rw [hbad (Or.inr h2)]
    have h2' : ((x.l.length : Int) != 2) = true := by rw [bne_iff_ne]; omega
    have h1' : (x.op != 1) = false := by simpa using h1
    clear hbad h1 HP h2
    unfold exV edV
    unfold exC at hW0
    generalize x.l.length = n at *
    unfold Gives
    go_enter Try.func27, Try.ntmps27
    go_upto_region 1 with fail
    rw [← hW0]
    clear hW0
    generalize hgw : w.heap.size = g at *
    have HGW := Lib.hid (Nat.le_of_eq hgw)
    clear hgw
    refine wp_region_more (by kernel_rfl) (by kernel_rfl) ?_
    repeat (go_big_quiet_step ((fail)))
    refine wpQuiet_nil ?_
    rintro _ ⟨z, rfl⟩
    go_wp2
    have hb := (ed_set HR0.out (.int .i64 0) (.int .i64 0) (.int .i64 0) (.int .i64 0)).more z
    obtain ⟨_, r0, r1, r2, r3, _, _, _, _⟩ := ed_in hb
    exact bodyPost_ret (v := .tuple #[.agg #[.int .i64 0, .int .i64 0, .int .i64 0, .int .i64 0], .bool false]) (by simp [results, Try.results27, go_sem, r0, r1, r2, r3]) rfl ⟨rfl, (grew_set4 HG0.out (Nat.le_trans HGW.out (Nat.le_succ g)) _ _ _ _).more z⟩
  have hE := edgeP_two h1 h2
  obtain ⟨b, o, P, kp, hA, _, h9⟩ := HP.out 0 (by omega)
  obtain ⟨b', o', P', kp', hA', _, h9'⟩ := HP.out 1 (by omega)
  subst hA
  simp only [Option.some.injEq, Addr.mk.injEq, and_true] at hA'
  obtain ⟨rfl, rfl⟩ := hA'
  have h1' : (x.op != 1) = false := by simpa using h1
  obtain ⟨r, hr⟩ : ∃ r, edgeP x = r := ⟨_, rfl⟩
  rw [hr] at hE ⊢
  have HE := Lib.hid hE
  clear hbad hr HP hE
  unfold exC at hW0
  unfold exV
  rw [h2] at s8
  rw [h1] at s0
  rw [h1, h2] at hW0 ⊢
  have H1 := Lib.hid h1
  clear h1
  generalize x.l[0] = p at *
  generalize x.l[1] = q at *
  rw [Nat.zero_mul, Nat.add_zero] at h9
  rw [Nat.one_mul] at h9'
  have HP9 := Lib.hid h9
  have HQ9 := Lib.hid h9'
  obtain ⟨pl, m0, m1, m2, m3, m4, m5, m6, m7, m8⟩ := h9
  obtain ⟨pl', n0, n1, n2, n3, n4, n5, n6, n7, n8⟩ := h9'
  by_cases c1 : p.op = 15
  rotate_left
  · obtain rfl : r = (⟨0, 0, 0, 0⟩, false) := by rw [HE.out, if_neg (fun e => c1 e.1)]
    have c1' : (p.op != 15) = true := by simpa using c1
    clear HE c1
    unfold Gives
    go_enter Try.func27, Try.ntmps27
    go_upto_region 1 with fail
    rw [← hW0]
    clear hW0
    generalize hgw : w.heap.size = g at *
    have HGW := Lib.hid (Nat.le_of_eq hgw)
    clear hgw
    refine wp_region_more (by kernel_rfl) (by kernel_rfl) ?_
    repeat (go_big_quiet_step ((fail)))
    refine wpQuiet_nil ?_
    rintro _ ⟨z, rfl⟩
    go_wp2
    have hb := (ed_set HR0.out (.int .i64 0) (.int .i64 0) (.int .i64 0) (.int .i64 0)).more z
    obtain ⟨_, r0, r1, r2, r3, _, _, _, _⟩ := ed_in hb
    exact bodyPost_ret (v := .tuple #[.agg #[.int .i64 0, .int .i64 0, .int .i64 0, .int .i64 0], .bool false]) (by simp [results, Try.results27, go_sem, r0, r1, r2, r3]) rfl ⟨rfl, (grew_set4 HG0.out (Nat.le_trans HGW.out (Nat.le_succ g)) _ _ _ _).more z⟩
  have c1' : (p.op != 15) = false := by simpa using c1
  by_cases c2 : q.op = 15
  rotate_left
  · obtain rfl : r = (⟨0, 0, 0, 0⟩, false) := by rw [HE.out, if_neg (fun e => c2 e.2.1)]
    have c2' : (q.op != 15) = true := by simpa using c2
    clear HE c1 c2
    unfold Gives
    go_enter Try.func27, Try.ntmps27
    go_upto_region 1 with fail
    rw [← hW0]
    clear hW0
    generalize hgw : w.heap.size = g at *
    have HGW := Lib.hid (Nat.le_of_eq hgw)
    clear hgw
    refine wp_region_more (by kernel_rfl) (by kernel_rfl) ?_
    repeat (go_big_quiet_step ((fail)))
    refine wpQuiet_nil ?_
    rintro _ ⟨z, rfl⟩
    go_wp2
    have hb := (ed_set HR0.out (.int .i64 0) (.int .i64 0) (.int .i64 0) (.int .i64 0)).more z
    obtain ⟨_, r0, r1, r2, r3, _, _, _, _⟩ := ed_in hb
    exact bodyPost_ret (v := .tuple #[.agg #[.int .i64 0, .int .i64 0, .int .i64 0, .int .i64 0], .bool false]) (by simp [results, Try.results27, go_sem, r0, r1, r2, r3]) rfl ⟨rfl, (grew_set4 HG0.out (Nat.le_trans HGW.out (Nat.le_succ g)) _ _ _ _).more z⟩
  have c2' : (q.op != 15) = false := by simpa using c2
  by_cases c3 : p.t = q.t
  · obtain rfl : r = (⟨0, 0, 0, 0⟩, false) := by rw [HE.out, if_neg (fun e => e.2.2 c3)]
    have c3' : (p.t == q.t) = true := by simpa using c3
    clear HE c1 c2 c3
    unfold Gives
    go_enter Try.func27, Try.ntmps27
    go_upto_region 1 with fail
    rw [← hW0]
    clear hW0
    generalize hgw : w.heap.size = g at *
    have HGW := Lib.hid (Nat.le_of_eq hgw)
    clear hgw
    refine wp_region_more (by kernel_rfl) (by kernel_rfl) ?_
    repeat (go_big_quiet_step ((fail)))
    refine wpQuiet_nil ?_
    rintro _ ⟨z, rfl⟩
    go_wp2
    have hb := (ed_set HR0.out (.int .i64 0) (.int .i64 0) (.int .i64 0) (.int .i64 0)).more z
    obtain ⟨_, r0, r1, r2, r3, _, _, _, _⟩ := ed_in hb
    exact bodyPost_ret (v := .tuple #[.agg #[.int .i64 0, .int .i64 0, .int .i64 0, .int .i64 0], .bool false]) (by simp [results, Try.results27, go_sem, r0, r1, r2, r3]) rfl ⟨rfl, (grew_set4 HG0.out (Nat.le_trans HGW.out (Nat.le_succ g)) _ _ _ _).more z⟩
  have c3' : (p.t == q.t) = false := by simpa using c3
  have HE2 : Hid (r = (if p.t < q.t then ⟨p.t, p.c, q.t, q.c⟩ else ⟨q.t, q.c, p.t, p.c⟩, true)) := Lib.hid (by rw [HE.out, if_pos ⟨c1, c2, c3⟩])
  clear HE c1 c2 c3
  unfold Gives
  go_enter Try.func27, Try.ntmps27
  go_upto_region 1 with fail
  rw [← hW0]
  clear hW0
  generalize hgw : w.heap.size = g at *
  have HGW := Lib.hid (Nat.le_of_eq hgw)
  clear hgw
  refine wp_region_more (by kernel_rfl) (by kernel_rfl) ?_
  repeat (go_big_quiet_step ((fail)))
  refine wpQuiet_nil ?_
  rintro _ ⟨z, rfl⟩
  obtain ⟨W1, hW1⟩ : ∃ W1, W1 = more W0 z := ⟨_, rfl⟩
  have HG1 : Hid (Grew w W1) := Lib.hid (by rw [hW1]; exact HG0.out.more z)
  have HX1 : Hid (Blok W1 g 27 (exC x (some ⟨b, o, none⟩) k).toArray) := Lib.hid (by rw [hW1]; exact HX0.out.more z)
  have HR1 : Hid (Blok W1 (g + 1) 68 #[.int .i64 0, .int .i64 0, .int .i64 0, .int .i64 0]) := Lib.hid (by rw [hW1]; exact HR0.out.more z)
  have HP1 : Hid (At9 W1 b o p P kp) := Lib.hid (by rw [hW1]; exact HP9.out.grew ((Grew.refl _).more z))
  have HQ1 : Hid (At9 W1 b (o + 9) q P' kp') := Lib.hid (by rw [hW1]; exact HQ9.out.grew ((Grew.refl _).more z))
  clear q0 s0 s1 s2 s3 s4 s5 s6 s7 s8 el e0 e1 e2 e3 f0 f1 f2 f3 pl m0 m1 m2 m3 m4 m5 m6 m7 m8 pl' n0 n1 n2 n3 n4 n5 n6 n7 n8 HP9 HQ9 HX0 HR0 HG0
  go_upto_region 3 with fail
  rw [← hW1]
  clear hW1
  go_cut [4, 5] (fun u v wx => ∃ g4 g5, u = .pointer (some ⟨g4, 0, none⟩) ∧ v = .pointer (some ⟨g5, 0, none⟩) ∧ g4 ≠ g5 ∧ W1.heap.size ≤ g4 ∧ W1.heap.size ≤ g5 ∧ Blok wx g4 27 (exC p P kp).toArray ∧ Blok wx g5 27 (exC q P' kp').toArray ∧ Grew W1 wx)
  case first =>
    refine wp_region_S (fun W => Grew W1 W) (by kernel_rfl) ?_
    refine held_take 0 (v := ?_) rfl (by kernel_rfl) (by kernel_rfl) (by kernel_rfl) (fun _ _ _ h => h) (by rfl) ?_ (Grew.refl _).drew ?_
    rotate_left
    · (intro W hW; obtain ⟨_, _, _, _, _, _, _, _, _, s8⟩ := blok9 (HX1.out.grew hW); obtain ⟨_, m0, m1, m2, m3, m4, m5, m6, m7, m8⟩ := HP1.out.grew hW; obtain ⟨_, n0, n1, n2, n3, n4, n5, n6, n7, n8⟩ := HQ1.out.grew hW; rw [h2] at s8; go_simp; with_reducible rfl)
    refine held_take 1 (v := ?_) rfl (by kernel_rfl) (by kernel_rfl) (by kernel_rfl) (fun _ _ _ h => h) (by rfl) ?_ (Grew.refl _).drew ?_
    rotate_left
    · (intro W hW; obtain ⟨_, _, _, _, _, _, _, _, _, s8⟩ := blok9 (HX1.out.grew hW); obtain ⟨_, m0, m1, m2, m3, m4, m5, m6, m7, m8⟩ := HP1.out.grew hW; obtain ⟨_, n0, n1, n2, n3, n4, n5, n6, n7, n8⟩ := HQ1.out.grew hW; rw [h2] at s8; go_simp; with_reducible rfl)
    refine held_take 2 (v := ?_) rfl (by kernel_rfl) (by kernel_rfl) (by kernel_rfl) (fun _ _ _ h => h) (by rfl) ?_ (Grew.refl _).drew ?_
    rotate_left
    · (intro W hW; obtain ⟨_, _, _, _, _, _, _, _, _, s8⟩ := blok9 (HX1.out.grew hW); obtain ⟨_, m0, m1, m2, m3, m4, m5, m6, m7, m8⟩ := HP1.out.grew hW; obtain ⟨_, n0, n1, n2, n3, n4, n5, n6, n7, n8⟩ := HQ1.out.grew hW; rw [h2] at s8; go_simp; with_reducible rfl)
    refine held_take 3 (v := ?_) rfl (by kernel_rfl) (by kernel_rfl) (by kernel_rfl) (fun _ _ _ h => h) (by rfl) ?_ (Grew.refl _).drew ?_
    rotate_left
    · (intro W hW; obtain ⟨_, _, _, _, _, _, _, _, _, s8⟩ := blok9 (HX1.out.grew hW); obtain ⟨_, m0, m1, m2, m3, m4, m5, m6, m7, m8⟩ := HP1.out.grew hW; obtain ⟨_, n0, n1, n2, n3, n4, n5, n6, n7, n8⟩ := HQ1.out.grew hW; rw [h2] at s8; go_simp; with_reducible rfl)
    refine held_take 4 (v := ?_) rfl (by kernel_rfl) (by kernel_rfl) (by kernel_rfl) (fun _ _ _ h => h) (by rfl) ?_ (Grew.refl _).drew ?_
    rotate_left
    · (intro W hW; obtain ⟨_, _, _, _, _, _, _, _, _, s8⟩ := blok9 (HX1.out.grew hW); obtain ⟨_, m0, m1, m2, m3, m4, m5, m6, m7, m8⟩ := HP1.out.grew hW; obtain ⟨_, n0, n1, n2, n3, n4, n5, n6, n7, n8⟩ := HQ1.out.grew hW; rw [h2] at s8; go_simp; with_reducible rfl)
    refine held_take 5 (v := ?_) rfl (by kernel_rfl) (by kernel_rfl) (by kernel_rfl) (fun _ _ _ h => h) (by rfl) ?_ (Grew.refl _).drew ?_
    rotate_left
    · (intro W hW; obtain ⟨_, _, _, _, _, _, _, _, _, s8⟩ := blok9 (HX1.out.grew hW); obtain ⟨_, m0, m1, m2, m3, m4, m5, m6, m7, m8⟩ := HP1.out.grew hW; obtain ⟨_, n0, n1, n2, n3, n4, n5, n6, n7, n8⟩ := HQ1.out.grew hW; rw [h2] at s8; go_simp; with_reducible rfl)
    refine held_take 6 (v := ?_) rfl (by kernel_rfl) (by kernel_rfl) (by kernel_rfl) (fun _ _ _ h => h) (by rfl) ?_ (Grew.refl _).drew ?_
    rotate_left
    · (intro W hW; obtain ⟨_, _, _, _, _, _, _, _, _, s8⟩ := blok9 (HX1.out.grew hW); obtain ⟨_, m0, m1, m2, m3, m4, m5, m6, m7, m8⟩ := HP1.out.grew hW; obtain ⟨_, n0, n1, n2, n3, n4, n5, n6, n7, n8⟩ := HQ1.out.grew hW; rw [h2] at s8; go_simp; with_reducible rfl)
    refine held_take 7 (v := ?_) rfl (by kernel_rfl) (by kernel_rfl) (by kernel_rfl) (fun _ _ _ h => h) (by rfl) ?_ (Grew.refl _).drew ?_
    rotate_left
    · (intro W hW; obtain ⟨_, _, _, _, _, _, _, _, _, s8⟩ := blok9 (HX1.out.grew hW); obtain ⟨_, m0, m1, m2, m3, m4, m5, m6, m7, m8⟩ := HP1.out.grew hW; obtain ⟨_, n0, n1, n2, n3, n4, n5, n6, n7, n8⟩ := HQ1.out.grew hW; rw [h2] at s8; go_simp; with_reducible rfl)
    refine held_norm (a' := ?_) ?_ ?_
    rotate_left
    · (go_simp; with_reducible rfl)
    refine held_two 8 9 (by kernel_rfl) rfl rfl (by rfl) (by rfl) (fun K hK => ?_) (fun K hK => ?_)
    · go_simp
      go_wp2_with fail
      refine hK.out _ _ (by repeat (first | exact Grew.refl _ | refine Grew.alloc ?_ _ | refine Grew.drew ?_ | refine Grew.setCell ?_ (by simp) _)) ?_
      clear hK K
      refine held_call 9 (by kernel_rfl) rfl (by rfl) (fun K hK => ?_)
      go_simp
      go_wp2_with fail
      refine hK.out _ _ (by repeat (first | exact Grew.refl _ | refine Grew.alloc ?_ _ | refine Grew.drew ?_ | refine Grew.setCell ?_ (by simp) _)) ?_
      clear hK K
      refine held_call 10 (by kernel_rfl) rfl (by rfl) (fun K hK => ?_)
      go_simp
      go_wp2_with fail
      refine hK.out _ _ (by repeat (first | exact Grew.refl _ | refine Grew.alloc ?_ _ | refine Grew.drew ?_ | refine Grew.setCell ?_ (by simp) _)) ?_
      clear hK K
      refine held_call 11 (by kernel_rfl) rfl (by rfl) (fun K hK => ?_)
      go_simp
      go_wp2_with fail
      refine hK.out _ _ (by repeat (first | exact Grew.refl _ | refine Grew.alloc ?_ _ | refine Grew.drew ?_ | refine Grew.setCell ?_ (by simp) _)) ?_
      clear hK K
      refine held_done (by kernel_rfl) ?_
      go_wp2_with fail
      go_meet
      exact ⟨_, _, rfl, rfl, by simp, Nat.le_refl _, Nat.le_succ _, (Blok.new _ _ _ _ rfl).alloc _, Blok.new _ _ _ _ (by simp), (by repeat (first | exact Grew.refl _ | refine Grew.alloc ?_ _ | refine Grew.drew ?_ | refine Grew.setCell ?_ (by simp) _))⟩
    · go_simp
      go_wp2_with fail
      refine hK.out _ _ (by repeat (first | exact Grew.refl _ | refine Grew.alloc ?_ _ | refine Grew.drew ?_ | refine Grew.setCell ?_ (by simp) _)) ?_
      clear hK K
      refine held_call 8 (by kernel_rfl) rfl (by rfl) (fun K hK => ?_)
      go_simp
      go_wp2_with fail
      refine hK.out _ _ (by repeat (first | exact Grew.refl _ | refine Grew.alloc ?_ _ | refine Grew.drew ?_ | refine Grew.setCell ?_ (by simp) _)) ?_
      clear hK K
      refine held_call 10 (by kernel_rfl) rfl (by rfl) (fun K hK => ?_)
      go_simp
      go_wp2_with fail
      refine hK.out _ _ (by repeat (first | exact Grew.refl _ | refine Grew.alloc ?_ _ | refine Grew.drew ?_ | refine Grew.setCell ?_ (by simp) _)) ?_
      clear hK K
      refine held_call 11 (by kernel_rfl) rfl (by rfl) (fun K hK => ?_)
      go_simp
      go_wp2_with fail
      refine hK.out _ _ (by repeat (first | exact Grew.refl _ | refine Grew.alloc ?_ _ | refine Grew.drew ?_ | refine Grew.setCell ?_ (by simp) _)) ?_
      clear hK K
      refine held_done (by kernel_rfl) ?_
      go_wp2_with fail
      go_meet
      exact ⟨_, _, rfl, rfl, by simp, Nat.le_succ _, Nat.le_refl _, Blok.new _ _ _ _ (by simp), (Blok.new _ _ _ _ rfl).alloc _, (by repeat (first | exact Grew.refl _ | refine Grew.alloc ?_ _ | refine Grew.drew ?_ | refine Grew.setCell ?_ (by simp) _))⟩
  case rest =>
    obtain ⟨g4, g5, rfl, rfl, hne, hl4, hl5, hb4, hb5, hg⟩ := hcut
    have HR4 := Lib.hid (HR1.out.grew hg)
    have HG4 := Lib.hid (HG1.out.trans hg)
    obtain ⟨al, a0, a1, a2, a3, a4, a5, a6, a7, a8⟩ := blok9 hb4
    obtain ⟨bl, b0, b1, b2, b3, b4, b5, b6, b7, b8⟩ := blok9 hb5
    obtain ⟨el, e0, e1, e2, e3, f0, f1, f2, f3⟩ := ed_in HR4.out
    clear hg hb4 hb5 hl4 hl5 HP1 HQ1 HX1 HR1 HG1
    by_cases c4 : p.t < q.t
    · obtain rfl : r = (⟨p.t, p.c, q.t, q.c⟩, true) := by rw [HE2.out, if_pos c4]
      clear HE2
      go_wp2
      have hb := ed_set HR4.out (.int .i64 p.t) (.int .i64 p.c) (.int .i64 q.t) (.int .i64 q.c)
      obtain ⟨_, r0, r1, r2, r3, _, _, _, _⟩ := ed_in hb
      exact bodyPost_ret (v := .tuple #[.agg #[.int .i64 p.t, .int .i64 p.c, .int .i64 q.t, .int .i64 q.c], .bool true]) (by simp [results, Try.results27, go_sem, r0, r1, r2, r3]) rfl ⟨rfl, grew_set4 HG4.out (Nat.le_trans HGW.out (Nat.le_succ g)) _ _ _ _⟩
    · obtain rfl : r = (⟨q.t, q.c, p.t, p.c⟩, true) := by rw [HE2.out, if_neg c4]
      have c4' : q.t ≤ p.t := by omega
      clear HE2 c4
      go_wp2
      have hb := ed_set HR4.out (.int .i64 q.t) (.int .i64 q.c) (.int .i64 p.t) (.int .i64 p.c)
      obtain ⟨_, r0, r1, r2, r3, _, _, _, _⟩ := ed_in hb
      exact bodyPost_ret (v := .tuple #[.agg #[.int .i64 q.t, .int .i64 q.c, .int .i64 p.t, .int .i64 p.c], .bool true]) (by simp [results, Try.results27, go_sem, r0, r1, r2, r3]) rfl ⟨rfl, grew_set4 HG4.out (Nat.le_trans HGW.out (Nat.le_succ g)) _ _ _ _⟩
end Go.Proofs.Ytoaciliojdaoaaa

/- Layer 16: the parts of a condition, by the document. Condition: expressions that lie in memory that is there. -/
namespace Go.Proofs.Ytoaciliojdaoaaa
open Go.RowKit
attribute [local go_sem] more_cell more_frozen more_more more_setCell more_of_drew more_of_drewN lt_more le_more past_cell past_cell2 past_frozen past_frozen2 past_setCell past_setCell2 mid_cell mid_frozen mid_setCell
attribute [local go_sem ↓] Go.wp_at_zero Go.wp_at_succ

/-- What must all be true. -/
def partsX : Ex → List Ex
  | .mk op tab name t c vk vi vs l =>
    if op = 0 then [] else if op = 10 then (match l with
      | [a, b] => partsX a ++ partsX b
      | _ => [.mk op tab name t c vk vi vs l]) else [.mk op tab name t c vk vi vs l]
termination_by e => SizeOf.sizeOf e
decreasing_by all_goals (simp; omega)
def partsE (l : List Ex) : List Ex := (l.map partsX).flatten
theorem partsX_zero {x : Ex} (h : x.op = 0) : partsX x = [] := by
  cases x
  simp only [Ex.op] at h
  rw [partsX.eq_def]
  simp [h]
theorem partsX_two {x : Ex} (h : x.op = 10) (h2 : x.l.length = 2) : partsX x = partsE x.l := by
  obtain ⟨op, tab, name, t, c, vk, vi, vs, l⟩ := x
  simp only [Ex.op, Ex.l] at h h2
  subst h
  match l, h2 with
  | [a, b], _ =>
    rw [partsX.eq_def]
    simp [partsE, Ex.l]
theorem partsX_one {x : Ex} (h0 : ¬ x.op = 0) (h : ¬ x.op = 10 ∨ ¬ x.l.length = 2) : partsX x = [x] := by
  obtain ⟨op, tab, name, t, c, vk, vi, vs, l⟩ := x
  simp only [Ex.op, Ex.l] at h0 h
  by_cases h1 : op = 10
  · rcases h with h | h
    · exact absurd h1 h
    · subst h1
      match l, h with
      | [], _ => rw [partsX.eq_def]; simp
      | [a], _ => rw [partsX.eq_def]; simp
      | [a, b], h => exact absurd rfl h
      | a :: b :: c :: l, _ => rw [partsX.eq_def]; simp
  · rw [partsX.eq_def]
    simp [h0, h1]
theorem partsE_take {l : List Ex} {i : Nat} (h : i < l.length) : partsE (l.take (i + 1)) = partsE (l.take i) ++ partsX l[i] := by
  unfold partsE
  rw [List.take_succ_eq_append_getElem h, List.map_append, List.flatten_append]
  simp
theorem partsE_of {l : List Ex} (h : ∀ y ∈ l, (partsX y).length ≤ y.nodes) : (partsE l).length ≤ nodesL l := by
  induction l with
  | nil => simp [partsE]
  | cons y l ih =>
    have h1 := ih fun z hz => h z (by simp [hz])
    have h2 := h y (by simp)
    have e : partsE (y :: l) = partsX y ++ partsE l := rfl
    rw [e, List.length_append]
    simp only [nodesL]
    omega
theorem partsX_len (x : Ex) : (partsX x).length ≤ x.nodes := by
  refine ex_ind (P := fun x => (partsX x).length ≤ x.nodes) (fun x ih => ?_) x
  have hp := nodes_pos x
  by_cases h0 : x.op = 0
  · rw [partsX_zero h0]; simp
  by_cases h1 : x.op = 10
  · by_cases h2 : x.l.length = 2
    · rw [partsX_two h1 h2]
      have := partsE_of ih
      rw [nodes_eq]
      omega
    · rw [partsX_one h0 (Or.inr h2)]; exact hp
  · rw [partsX_one h0 (Or.inl h1)]; exact hp
theorem partsE_len (l : List Ex) : (partsE l).length ≤ nodesL l := partsE_of fun y _ => partsX_len y
def RPartsAt (u w : World) (T : TypeId) (cs : Array Value) (l : List Ex) (v i : Value) (wr : World) : Prop :=
  ∃ (j n : Nat) (A : Option Addr) (c : Nat), j ≤ l.length ∧ n = (partsE (l.take j)).length ∧ i = .int .i64 j ∧ v = .slice A n c ∧ ExOwn u wr (w.heap.size + 1) A c (partsE (l.take j)) ∧ Grew w wr ∧ Blok wr w.heap.size T cs
set_option maxHeartbeats 4000000 in
theorem rparts_ex (n : Nat) : ∀ (x : Ex), SizeOf.sizeOf x < n → ∀ (A : Option Addr) (k : Nat) (u w : World), x.nodes ≤ 100000 → Grew u w → ExsR (PRow u) A x.l →
    Calls Try.prog 24 #[exV x A k] w (ColsF u w (partsX x)) := by
  induction n with
  | zero => intro x hn; omega
  | succ n ih =>
    intro x hn A k u w hm hg ra
    by_cases h0 : x.op = 0
    · rw [partsX_zero h0]
      obtain ⟨op, tab, name, tt, cc, vk, vi, vs, l⟩ := x
      simp only [Ex.op] at h0
      subst h0
      clear ra ih hn hm hg
      unfold exV
      simp only [Ex.op, Ex.tab, Ex.name, Ex.t, Ex.c, Ex.vk, Ex.vi, Ex.vs, Ex.l]
      go_enter Try.func24, Try.ntmps24
      go_wp2
      go_ret
      exact ⟨none, 0, rfl, by (show Grew _ _; repeat (first | exact Grew.refl _ | refine Grew.alloc ?_ _ | refine Grew.drew ?_ | refine Grew.more ?_ _)), [], ListR.nil, Or.inl rfl⟩
    by_cases hone : ¬ x.op = 10 ∨ ¬ x.l.length = 2
    · rw [partsX_one h0 hone]
      have HX := Lib.hid (listR_single ra k)
      obtain ⟨op, tab, name, tt, cc, vk, vi, vs, l⟩ := x
      simp only [Ex.op, Ex.l] at h0 hone
      have e0 : (op == 0) = false := by simpa using h0
      have hcase : (op != 10) = true ∨ ((op != 10) = false ∧ ((l.length : Int) != 2) = true) := by
        by_cases h1 : op = 10
        · rcases hone with h | h
          · exact absurd h1 h
          · exact Or.inr ⟨by simpa using h1, by rw [bne_iff_ne]; omega⟩
        · exact Or.inl (by simpa using h1)
      clear ra ih hn hm hg h0 hone
      unfold exV
      simp only [Ex.op, Ex.tab, Ex.name, Ex.t, Ex.c, Ex.vk, Ex.vi, Ex.vs, Ex.l]
      rcases hcase with c1 | ⟨c1, c2⟩
      all_goals (
        go_enter Try.func24, Try.ntmps24
        go_wp2
        go_ret
        refine ⟨_, _, rfl, by (show Grew _ _; repeat (first | exact Grew.refl _ | refine Grew.alloc ?_ _ | refine Grew.drew ?_ | refine Grew.more ?_ _)), _, HX.out, ?_⟩
        exact row_new (w.alloc (.cells #[.int .i64 op, .string tab, .string name, .int .i64 tt, .int .i64 cc, .int .i64 vk, .int .i64 vi, .string vs, .slice A l.length k] 27)) 27 (w.heap.size + 1) #[.int .i64 op, .string tab, .string name, .int .i64 tt, .int .i64 cc, .int .i64 vk, .int .i64 vi, .string vs, .slice A l.length k] (by simp))
    · have hop : x.op = 10 := by
        by_cases h : x.op = 10
        · exact h
        · exact absurd (Or.inl h) hone
      have h2 : x.l.length = 2 := by
        by_cases h : x.l.length = 2
        · exact h
        · exact absurd (Or.inr h) hone
      clear hone h0
      rw [partsX_two hop h2]
      have hpart : ∀ y ∈ x.l, SizeOf.sizeOf y < n := fun y hy => by have := x.part_lt hy; omega
      have hx : x.nodes = 1 + nodesL x.l := nodes_eq x
      rw [hx] at hm
      have hNL := nodesL_len x.l
      have hmem : ∀ y ∈ x.l, y.nodes ≤ 100000 := fun y hy => by have := nodesL_mem hy; omega
      obtain ⟨op, tab, name, tt, cc, vk, vi, vs, l⟩ := x
      simp only [Ex.l, Ex.op] at ra hpart hm hNL hop h2 hmem ⊢
      have RA := Lib.hid ra
      have HI := Lib.hid (fun (y : Ex) (hy : y ∈ l) => ih y (hpart y hy))
      have HMem := Lib.hid hmem
      have HG := Lib.hid hg
      have HLen : Hid (∀ j, (partsE (l.take j)).length ≤ 100000) := Lib.hid fun j => by have h1 := partsE_len (l.take j); have h2 := nodesL_cut l j; omega
      obtain ⟨fin, hfin⟩ : ∃ fin, partsE l = fin := ⟨_, rfl⟩
      have HF := Lib.hid hfin
      rw [hfin]
      have hll : l.length ≤ 100000 := by omega
      have HL2 := Lib.hid h2
      have c2 : ((l.length : Int) != 2) = false := by rw [bne_eq_false_iff_eq]; omega
      subst hop
      clear ra ih hpart hn hx hg hfin hmem hNL hm h2
      unfold exV
      simp only [Ex.op, Ex.tab, Ex.name, Ex.t, Ex.c, Ex.vk, Ex.vi, Ex.vs, Ex.l]
      go_enter Try.func24, Try.ntmps24
      go_wp2
      go_loopw [3, 4] (fun v i wr => RPartsAt u w 27 #[.int .i64 10, .string tab, .string name, .int .i64 tt, .int .i64 cc, .int .i64 vk, .int .i64 vi, .string vs, .slice A l.length k] l v i wr) (fun _ i _ => l.length - (intOf i).toNat)
      case atStart => exact ⟨0, 0, none, 0, Nat.zero_le _, rfl, rfl, rfl, ⟨[], ListR.nil, own_none _ _ _ _⟩, by (show Grew _ _; repeat (first | exact Grew.refl _ | refine Grew.alloc ?_ _ | refine Grew.drew ?_ | refine Grew.more ?_ _)), Blok.new _ _ _ _ rfl⟩
      case round =>
        obtain ⟨j, m, A3, c3, hj, hm, rfl, rfl, hx, hg, hb⟩ := hrel
        have HX := Lib.hid hx
        have HGr := Lib.hid hg
        have HB := Lib.hid hb
        have c8 := hb.cell 8
        have hlt := hb.lt
        simp at c8
        clear hx hg hb
        by_cases h : j < l.length
        · have hj2 : (j : Int) < 2 := by have := HL2.out; omega
          obtain ⟨ba, oa, PA, ka, rfl, hpa, h9⟩ := exsR_nine RA.out h
          have HN := Lib.hid (partsE_take h)
          have hl1 := HLen.out (j + 1)
          rw [HN.out, List.length_append, ← hm] at hl1
          have HC : Hid (∀ W, Grew wr W → Calls Try.prog 24 #[exV l[j] PA ka] W (ColsF u W (partsX l[j]))) := Lib.hid fun W hW =>
            HI.out _ (List.getElem_mem h) _ _ u W (HMem.out _ (List.getElem_mem h)) ((HG.out.trans HGr.out).trans hW) hpa
          obtain ⟨p0, a0, a1, a2, a3, a4, a5, a6, a7, a8⟩ := h9.grew (HG.out.trans HGr.out)
          clear h9 hpa HI HMem HLen HF
          generalize l[j] = y at *
          unfold exV at HC
          generalize partsX y = yc at *
          generalize partsE (l.take j) = l0 at *
          obtain ⟨css, hl0, ho⟩ := HX.out
          subst hm
          have HO := Lib.hid ho
          have HL0 := Lib.hid hl0
          clear HX hl0 ho
          go_wp2_with (first | (go_at_call 24; (with_reducible refine (HC.out _ (Grew.refl wr)).mono ?_); rintro e w2 ⟨A2, k2, rfl, hg2, dss, hd2, hr2⟩; have HG2 := Lib.hid hg2; have HD2 := Lib.hid hd2; have HR2 := Lib.hid hr2; clear hg2 hd2 hr2) | (at_builtin; refine wpList_appB rfl (.tmp 23) (.tmp 29) 22 27 9 rfl (w.heap.size + 1) (.agg #[.int .i64 0, .string ⟨#[]⟩, .string ⟨#[]⟩, .int .i64 0, .int .i64 0, .int .i64 0, .int .i64 0, .string ⟨#[]⟩, .slice none 0 0]) 112 Try.underlying22 infoE rfl (by decide) (by decide) _ l0.length css.flatten rfl (own_grewE HO.out HG2.out) A2 yc.length k2 dss.flatten rfl HD2.out.flat HR2.out (listR_one HD2.out) (by omega) (by have := HG2.out.size; omega) ?_; intro A6 c6 w6 ho6 hg6; have HO6 := Lib.hid ho6; have HG6 := Lib.hid hg6; clear ho6 hg6))
          have hob : ∀ i, (Value.slice A3 l0.length c3).ownBlock = some i → w.heap.size + 1 ≤ i := own_base HO.out
          exact ⟨⟨j + 1, l0.length + yc.length, A6, c6, by omega, by rw [HN.out, List.length_append], by go_num, rfl, by rw [HN.out]; exact ExOwn.app HL0.out HD2.out HO6.out,
            (HGr.out.trans HG2.out).grown HG6.out (fun i hi => by have := hob i hi; omega), (HB.out.grew HG2.out).grown HG6.out (fun e => by have := hob _ e; omega)⟩, by simp only [intOf]; omega⟩
        · obtain rfl : j = l.length := by omega
          have hj2 : (2 : Int) ≤ (l.length : Int) := by have := HL2.out; omega
          have HD : Hid (ExsU u wr A3 fin ∧ m = fin.length) := Lib.hid (by have h1 := HX.out.u; rw [List.take_length, HF.out] at h1; rw [List.take_length, HF.out] at hm; exact ⟨h1, hm⟩)
          clear HX HF HI HLen hm
          go_wp2
          go_ret
          obtain ⟨h1, h2⟩ := HD.out
          subst h2
          exact ⟨A3, c3, rfl, HGr.out, h1⟩

end Go.Proofs.Ytoaciliojdaoaaa

namespace Go.Proofs.Ytoaciliojdaoaaa
open Go.RowKit
attribute [local go_sem] more_cell more_frozen more_more more_setCell more_of_drew more_of_drewN lt_more le_more past_cell past_cell2 past_frozen past_frozen2 past_setCell past_setCell2 mid_cell mid_frozen mid_setCell
attribute [local go_sem ↓] Go.wp_at_zero Go.wp_at_succ
theorem wp_appC {P : Program} {w : World} {o : Oper} {a : Act} {K : Act → World → Prop} {Q : Exit → Act → World → Prop} (s x : Operand) (t e : TypeId) (size : Nat)
    (ho : o.op = .call { callee := .builtin .append, args := #[s, x], argTypes := #[t, t] })
    (base : Nat) (z : Value) (bytes : Nat) (ht : P.underlying t = some (.slice e)) (hi : (P.info? e).map (fun i => (i.zero, i.size, i.bytes)) = some (some z, size, bytes)) (hzs : z.cells.size = size) (hsz : 0 < size) (hb8 : bytes ≤ 256)
    (v : Value) (n : Nat) (xs : List Value) (hs : a.eval s = v) (hown : w.ownsRow base e size v n xs)
    (A : Option Addr) (m c : Nat) (news : List Value) (hx : a.eval x = .slice A m c) (hl : news.length = m * size) (hr : Row w A news) (h1 : ∀ u ∈ news, u.oneCell' = true)
    (hsm : n + m ≤ 549755813888) (hg : base ≤ w.heap.size)
    (h : ∀ A' c' w', w'.ownsRow base e size (.slice A' (n + m) c') (n + m) (xs ++ news) → w.grownBy w' v.ownBlock → ((Value.slice A' (n + m) c').ownBlock = v.ownBlock ∨ (Value.slice A' (n + m) c').ownBlock = some w.heap.size) → K (a.put o.dst (.slice A' (n + m) c')) w') : o.wp P a w K Q := by
  obtain ⟨i, hi0, hz, hs1, hb⟩ := info_parts hi
  have hbb : (n + m) * bytes ≤ 549755813888 * 256 := Nat.mul_le_mul hsm hb8
  refine wp_append_row w s x t ho base e i z size bytes ht hi0 hz hs1 hb hzs hsz v n xs hs hown A m c news hx hl hr h1 (by unfold maxLen; omega) (by omega) hg ?_
  intro A' c' w' ho' hr' hgb hor
  exact h A' c' w' ho' hgb hor
theorem two_of {l : List Ex} (h : l.length = 2) : ∃ a b, l = [a, b] := by
  match l, h with
  | [a, b], _ => exact ⟨a, b, rfl⟩
theorem partsX_nodes (x : Ex) : ∀ y ∈ partsX x, y.nodes ≤ x.nodes := by
  refine ex_ind (P := fun x => ∀ y ∈ partsX x, y.nodes ≤ x.nodes) (fun x ih => ?_) x
  intro y hy
  by_cases h0 : x.op = 0
  · rw [partsX_zero h0] at hy; cases hy
  by_cases h1 : x.op = 10
  · by_cases h2 : x.l.length = 2
    · rw [partsX_two h1 h2] at hy
      unfold partsE at hy
      obtain ⟨l, hl, hyl⟩ := List.mem_flatten.1 hy
      obtain ⟨z, hz, rfl⟩ := List.mem_map.1 hl
      have h3 := ih z hz y hyl
      have h4 := nodes_part hz
      omega
    · rw [partsX_one h0 (Or.inr h2)] at hy
      rw [List.mem_singleton.1 hy]
      exact Nat.le_refl _
  · rw [partsX_one h0 (Or.inl h1)] at hy
    rw [List.mem_singleton.1 hy]
    exact Nat.le_refl _
end Go.Proofs.Ytoaciliojdaoaaa
