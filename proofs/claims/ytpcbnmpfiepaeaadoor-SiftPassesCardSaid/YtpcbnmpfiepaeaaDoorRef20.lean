/- Layer 20: what is much, which keys are whole, and how many, as the document says. Condition: rows that lie in memory that is there, in less than what memory holds. -/
import Derived.Test.YtpcbnmpfiepaeaaDoorSift1
import Derived.Test.YtpcbnmpfiepaeaaDoorRowMuch
import Derived.Test.YtpcbnmpfiepaeaaDoorGoodRow
namespace Go.Proofs.YtpcbnmpfiepaeaaDoor
open Go.RowKit
attribute [local go_sem] more_cell more_frozen more_more more_setCell more_of_drew more_of_drewN lt_more le_more past_cell past_cell2 past_frozen past_frozen2 past_setCell past_setCell2 mid_cell mid_frozen mid_setCell
attribute [local go_sem ↓] Go.wp_at_zero Go.wp_at_succ

theorem infoRw20 : (Tryd.prog.info? 23).map (fun i => (i.zero, i.size, i.bytes)) = some (some (.slice none 0 0), 1, 24) := by kernel_rfl
theorem listR_one20 {α : Type} {R : α → List Value → Prop} {l : List α} {css : List (List Value)} (h : ListR R 1 l css) (p : Value → Prop) (hp : ∀ x cs, R x cs → ∀ u ∈ cs, p u) : ∀ u ∈ css.flatten, p u := by
  intro u hu
  rw [List.mem_flatten] at hu
  obtain ⟨cs, hcs, hu⟩ := hu
  obtain ⟨i, hi, rfl⟩ := List.mem_iff_getElem.1 hcs
  have hl : i < l.length := by rw [← h.1]; exact hi
  exact hp _ _ (h.2 i l[i] css[i] (List.getElem?_eq_getElem hl) (List.getElem?_eq_getElem hi)).1 u hu
theorem rwR_one20 {R : Rw} {x : List Vl} {cs : List Value} (h : RwR R x cs) : ∀ u ∈ cs, u.oneCell' = true := by
  obtain ⟨A, k, rfl, _⟩ := h
  intro u hu
  simp at hu
  subst hu
  rfl
theorem listR_app20 {α : Type} {R : α → List Value → Prop} {size : Nat} {l m : List α} {css dss : List (List Value)} (h : ListR R size l css) (k : ListR R size m dss) : ListR R size (l ++ m) (css ++ dss) := by
  refine ⟨by simp [h.1, k.1], fun j x cs h1 h2 => ?_⟩
  rcases Nat.lt_or_ge j l.length with hj | hj
  · rw [List.getElem?_append_left hj] at h1
    rw [List.getElem?_append_left (by rw [h.1]; exact hj)] at h2
    exact h.2 j x cs h1 h2
  · rw [List.getElem?_append_right hj] at h1
    rw [List.getElem?_append_right (by rw [h.1]; exact hj), h.1] at h2
    exact k.2 _ x cs h1 h2
def WhAt (w : World) (l : List Vl) (t : Bool) (i : Value) (wr : World) : Prop := ∃ j : Nat, j ≤ l.length ∧ i = .int .i64 j ∧ Grew w wr ∧ wholeV (l.drop j) = t
set_option maxHeartbeats 1000000 in
set_option maxRecDepth 100000 in
theorem rwhole_any (l : List Vl) (hl : l.length ≤ 140737488355328) (A : Option Addr) (k : Nat) (w : World) (ra : VlsR (PRow w) A l) :
    Gives Tryd.prog 15 #[.slice A l.length k] w (.bool (wholeV l)) := by
  have RA := Lib.hid ra
  obtain ⟨t, ht⟩ : ∃ t, wholeV l = t := ⟨_, rfl⟩
  have HT0 : Hid (wholeV (l.drop 0) = t) := Lib.hid ht
  rw [ht]
  clear ra ht
  unfold Gives
  go_enter Tryd.func15, Tryd.ntmps15
  go_wp2
  go_loopw [3] (fun i wr => WhAt w l t i wr) (fun i _ => l.length - (intOf i).toNat)
  case atStart => exact ⟨0, Nat.zero_le _, rfl, Grew.refl w, HT0.out⟩
  case round =>
    obtain ⟨j, hj, rfl, hg, hk⟩ := hrel
    have HG := Lib.hid hg
    have HK := Lib.hid hk
    clear hg hk HT0
    by_cases h : j < l.length
    · have hji : (j : Int) < (l.length : Int) := by omega
      have e0 : decide ((j : Int) < (l.length : Int)) = true := decide_eq_true hji
      obtain ⟨b, o, rfl, hb, c0, c1, c2⟩ := vlsR_at (RA.out.grew HG.out) h
      have HS := Lib.hid ((wholeV_drop h).symm.trans HK.out)
      clear HK
      generalize l[j] = v at *
      obtain ⟨vk, vi, vs⟩ := v
      simp only at c0 c1 c2 HS
      by_cases hn : vk = 0
      · have hb0 : (vk == 0) = true := by simpa using hn
        have ht : t = false := by rw [← HS.out, hb0]; rfl
        subst ht
        clear HS
        go_wp2
        go_ret
        exact ⟨rfl, HG.out⟩
      · have hb0 : (vk == 0) = false := by simpa using hn
        have HS2 : Hid (wholeV (l.drop (j + 1)) = t) := Lib.hid (by have := HS.out; rw [hb0] at this; simpa using this)
        clear HS
        go_wp2
        exact ⟨⟨j + 1, by omega, by go_num, HG.out, HS2.out⟩, by simp only [intOf]; omega⟩
    · obtain rfl : j = l.length := by omega
      have e0 : decide ((l.length : Int) < (l.length : Int)) = false := decide_eq_false (by omega)
      have ht : t = true := by rw [← HK.out, List.drop_length]; rfl
      subst ht
      clear HK
      go_wp2
      go_ret
      exact ⟨rfl, HG.out⟩
theorem own_thus20 {w w' : World} {base : Nat} {e : TypeId} {size n : Nat} {v : Value} {xs : List Value} (h : w.ownsRow base e size v n xs) (g : Grew w w') : w'.ownsRow base e size v n xs := by
  obtain ⟨x, rfl⟩ := g
  exact own_more h x
def cntW (l : List (List Vl)) : Nat := (l.filter wholeV).length
theorem cntW_snoc {l : List (List Vl)} {j : Nat} (h : j < l.length) : cntW (l.take (j + 1)) = cntW (l.take j) + if wholeV l[j] then 1 else 0 := by
  unfold cntW
  rw [List.take_succ_eq_append_getElem h, List.filter_append, List.length_append]
  by_cases hw : wholeV l[j] = true
  · rw [List.filter_cons_of_pos hw, if_pos hw]; rfl
  · rw [List.filter_cons_of_neg hw, if_neg hw]; rfl
theorem cntW_le (l : List (List Vl)) : cntW l ≤ l.length := List.length_filter_le _ _
def WsAt (w : World) (l : List (List Vl)) (v i : Value) (wr : World) : Prop :=
  ∃ (j : Nat) (A : Option Addr) (c : Nat) (xs : List Value), j ≤ l.length ∧ i = .int .i64 j ∧ v = .slice A (cntW (l.take j)) c ∧ Grew w wr ∧ wr.ownsRow w.heap.size 23 1 (.slice A (cntW (l.take j)) c) (cntW (l.take j)) xs
set_option maxHeartbeats 4000000 in
set_option maxRecDepth 100000 in
theorem wholes_any (l : List (List Vl)) (hl : l.length ≤ 1000000) (hr : ∀ r ∈ l, r.length ≤ 1000000) (A : Option Addr) (k : Nat) (w : World) (ra : RwsR (PRow w) A l) :
    Calls Tryd.prog 24 #[.slice A l.length k] w fun e w' => ∃ A k, e = .returned (.slice A (cntW l) k) ∧ Grew w w' := by
  have RA := Lib.hid ra
  have HR := Lib.hid hr
  clear ra hr
  go_enter Tryd.func24, Tryd.ntmps24
  go_wp2
  go_loopw [3, 4] (fun v i wr => WsAt w l v i wr) (fun _ i _ => l.length - (intOf i).toNat)
  case atStart => exact ⟨0, none, 0, [], Nat.zero_le _, rfl, rfl, Grew.refl w, own_none _ _ _ 1⟩
  case round =>
    obtain ⟨j, S, c, xs, hj, rfl, rfl, hg, ho⟩ := hrel
    have HG := Lib.hid hg
    have HO := Lib.hid ho
    clear hg ho
    by_cases h : j < l.length
    · have hji : (j : Int) < (l.length : Int) := by omega
      have e0 : decide ((j : Int) < (l.length : Int)) = true := decide_eq_true hji
      obtain ⟨pb, po, PA, ka, rfl, hpb, c0, hka, hva⟩ := rwsR_at (RA.out.grew HG.out) h
      have HSt := Lib.hid (cntW_snoc h)
      have hcl := Nat.le_trans (cntW_le (l.take j)) (List.length_take_le j l)
      have HW := Lib.hid (rwhole_any l[j] (Nat.le_trans (HR.out _ (List.getElem_mem h)) (by decide)) PA ka wr hva)
      clear hka hva
      generalize cntW (l.take j) = m at *
      generalize l[j] = x at *
      obtain ⟨t, ht⟩ : ∃ t, wholeV x = t := ⟨_, rfl⟩
      rw [ht] at HSt HW
      clear ht
      cases t
      · have hm : cntW (l.take (j + 1)) = m := by rw [HSt.out]; rfl
        have HM := Lib.hid hm
        clear hm HSt
        go_wp2_with fail
        (with_reducible refine HW.out.grows.mono ?_)
        rintro e w2 ⟨rfl, hg2⟩
        have HG2 := Lib.hid (HG.out.trans hg2)
        have HO2 := Lib.hid (own_thus20 HO.out hg2)
        clear hg2 HW HG HO
        go_wp2
        exact ⟨⟨j + 1, S, c, xs, by omega, by go_num, by rw [HM.out], HG2.out, by rw [HM.out]; exact HO2.out⟩, by simp only [intOf]; omega⟩
      · have hm : cntW (l.take (j + 1)) = m + 1 := by rw [HSt.out]; rfl
        have HM := Lib.hid hm
        clear hm HSt
        go_wp2_with fail
        (with_reducible refine HW.out.grows.mono ?_)
        rintro e w2 ⟨rfl, hg2⟩
        have HG2 := Lib.hid (HG.out.trans hg2)
        have HO2 := Lib.hid (own_thus20 HO.out hg2)
        have c2 := hg2.cell (a := ⟨pb, po + j, none⟩) hpb
        rw [c0] at c2
        have hpb2 := Nat.lt_of_lt_of_le hpb hg2.size
        clear hg2 HW HG HO c0 hpb
        go_wp2_with (at_builtin; refine wpList_apps rfl _ _ 22 23 1 rfl w (.slice none 0 0) 24 Tryd.underlying22 infoRw20 rfl (by decide) (by decide) _ m xs rfl (own_alloc HO2.out _) _ 1 1 [.slice PA x.length ka] rfl rfl (row_new _ _ _ _ rfl) (by simp [Value.oneCell']) (by omega) (HG2.out.alloc _) ?_; intro A3 c3 w3 ho3 _ hg3 _ _; have HO3 := Lib.hid ho3; have HG3 := Lib.hid hg3; clear ho3 hg3)
        exact ⟨⟨j + 1, A3, c3, _, by omega, by go_num, by rw [HM.out], HG3.out, by rw [HM.out]; exact HO3.out⟩, by simp only [intOf]; omega⟩
    · obtain rfl : j = l.length := by omega
      have e0 : decide ((l.length : Int) < (l.length : Int)) = false := decide_eq_false (by omega)
      rw [List.take_length]
      have HX : Hid (∃ A k, Ending.returned (.slice S (cntW l) c) = .returned (.slice A (cntW l) k) ∧ Grew w wr) := Lib.hid ⟨S, c, rfl, HG.out⟩
      clear HO
      go_wp2
      go_ret
      exact HX.out
theorem rcount20_any (l : List (List Vl)) (hl : l.length ≤ 1000000) (hr : ∀ r ∈ l, r.length ≤ 1000000) (A : Option Addr) (k : Nat) (w : World) (ra : RwsR (PRow w) A l) :
    Gives Tryd.prog 12 #[.slice A l.length k] w (.int .i64 (cntW l : Nat)) := by
  have HW := Lib.hid (wholes_any l hl hr A k w ra)
  clear ra
  generalize cntW l = m at *
  unfold Gives
  go_enter Tryd.func12, Tryd.ntmps12
  go_wp2_with fail
  refine HW.out.mono ?_
  rintro e w2 ⟨S, c, rfl, hg2⟩
  have HG2 := Lib.hid hg2
  clear hg2 HW
  go_wp2
  go_ret
  exact ⟨rfl, HG2.out⟩
/-- append, up to what memory holds. -/
theorem wpList_appW20 {P : Program} {w : World} {ops : Array Oper} {rest : List Oper} {o : Oper} {a : Act} {Q : Exit → Act → World → Prop} (hgd : o.guard = none) (s x : Operand) (t e : TypeId) (size : Nat)
    (ho : o.op = .call { callee := .builtin .append, args := #[s, x], argTypes := #[t, t] })
    (u : World) (z : Value) (bytes : Nat) (ht : P.underlying t = some (.slice e)) (hi : (P.info? e).map (fun i => (i.zero, i.size, i.bytes)) = some (some z, size, bytes)) (hzs : z.cells.size = size) (hsz : 0 < size)
    (v : Value) (n : Nat) (xs : List Value) (hs : a.eval s = v) (hown : w.ownsRow u.heap.size e size v n xs)
    (A : Option Addr) (m c : Nat) (news : List Value) (hx : a.eval x = .slice A m c) (hl : news.length = m * size) (hr : Row w A news) (h1 : ∀ u ∈ news, u.oneCell' = true)
    (h63 : n + m ≤ maxLen) (hbb : (n + m) * bytes ≤ 140737488355328) (hg : Grew u w)
    (h : ∀ A' c' w', w'.ownsRow u.heap.size e size (.slice A' (n + m) c') (n + m) (xs ++ news) → Row w' A' (xs ++ news) → Grew u w' → wpList P ops Q rest (a.put o.dst (.slice A' (n + m) c')) w') : wpList P ops Q (o :: rest) a w := by
  obtain ⟨i, hi0, hz, hs1, hb⟩ := info_parts hi
  refine wpList_append_row w hgd s x t ho u.heap.size e i z size bytes ht hi0 hz hs1 hb hzs hsz v n xs hs hown A m c news hx hl hr h1 h63 hbb hg.size ?_
  intro A' c' w' ho' hr' hgb _
  exact h A' c' w' ho' hr' (hg.grown hgb (own_base hown))
theorem nil_row {w : World} : RwR (PRow w) ([] : List Vl) [.slice none 0 0] := ⟨none, 0, rfl, Nat.le_refl _, vlsR_flat (Or.inl rfl)⟩
set_option maxHeartbeats 4000000 in
set_option maxRecDepth 100000 in
theorem much20_any (l : List (List Vl)) (hl : RwsOk l) (hb : l.length * 24 ≤ 140737488351232) (n : Int) (A : Option Addr) (k : Nat) (w : World) (h : RwsR (PRow w) A l) :
    Calls Tryd.prog 4 #[.slice A l.length k, .slice none 0 0, .int .i64 n] w (MuchR w (goodRws ([] :: l) ∧ n ≤ 40)) := by
  obtain ⟨css, hls, hrow⟩ := h
  have hfl : css.flatten.length = l.length := by have := hls.flat; omega
  have H1 : Hid (∀ u ∈ css.flatten, u.oneCell' = true) := Lib.hid (listR_one20 hls _ fun x cs hx => rwR_one20 hx)
  have HM : Hid (∀ W S c, Grew w W → Row W S ([.slice none 0 0] ++ css.flatten) → Calls Tryd.prog 16 #[.slice S (1 + l.length) c] W (MuchR W (goodRws ([] :: l)))) := Lib.hid fun W S c hW hr => by
    have hx := much4_any ([] :: l) ⟨by rw [List.length_cons]; omega, by intro x hx; rcases List.mem_cons.1 hx with rfl | hx; exact ⟨Nat.zero_le _, fun v hv => by cases hv⟩; exact hl.2 x hx⟩ S c W ⟨[[.slice none 0 0]] ++ css, by
      have h1 : ListR (RwR (PRow W)) 1 [([] : List Vl)] [[.slice none 0 0]] := ⟨rfl, fun i x cs hi hd => by
        rcases i with _ | i
        · simp only [List.getElem?_cons_zero, Option.some.injEq] at hi hd
          subst hi hd
          exact ⟨nil_row, rfl⟩
        · simp at hi⟩
      exact listR_app20 h1 (hls.map fun x cs hx => hx.imp fun _ _ _ h => h.grew hW), by simpa [PRow] using hr⟩
    rwa [List.length_cons, Nat.add_comm] at hx
  have HRw := Lib.hid hrow
  have HFl := Lib.hid hfl
  clear hls hrow hfl hl
  generalize css.flatten = M at *
  go_enter Tryd.func4, Tryd.ntmps4
  go_wp2_with (at_builtin; refine wpList_appW20 rfl (.tmp 8) (.tmp 9) 22 23 1 rfl w (.slice none 0 0) 24 Tryd.underlying22 infoRw20 rfl (by decide) _ 1 [.slice none 0 0] rfl (own_one w w.heap.size _ _ _ rfl (Nat.le_refl _)) A l.length k M rfl (by rw [HFl.out, Nat.mul_one]) (HRw.out.grew ((Grew.refl w).alloc _)) H1.out (by unfold maxLen; omega) (by omega) ((Grew.refl w).alloc _) ?_; intro A3 c3 w3 _ hr3 hg3; have HR3 := Lib.hid hr3; have HG3 := Lib.hid hg3; clear hr3 hg3)
  refine (HM.out w3 A3 c3 HG3.out HR3.out).mono ?_
  rintro e w4 ⟨t, rfl, hg4, h4⟩
  have HG4 := Lib.hid (HG3.out.trans hg4)
  have H4 := Lib.hid h4
  clear hg4 h4 HG3 HR3 HM HRw HFl H1
  cases t
  · by_cases hn : 40 < n
    · have e0 : decide ((40 : Int) < n) = true := decide_eq_true hn
      go_wp2
      go_ret
      exact muchR_true _ HG4.out
    · have e0 : decide ((40 : Int) < n) = false := decide_eq_false hn
      have hx : goodRws ([] :: l) ∧ n ≤ 40 := ⟨H4.out rfl, by omega⟩
      have HX := Lib.hid hx
      clear hx H4
      go_wp2
      go_ret
      exact muchR_false HG4.out HX.out
  · clear H4
    go_wp2
    go_ret
    exact muchR_true _ HG4.out
end Go.Proofs.YtpcbnmpfiepaeaaDoor
