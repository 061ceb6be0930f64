/- Layer 14: an aggregate, by the document. Condition: no more than a hundred thousand values. -/
import Derived.Test.YtddambfniaiogaaAgg5
import Derived.Deep.RegionWith
namespace Go.Proofs.Ytddambfniaiogaa
open Go.RowKit
attribute [local go_sem] more_cell more_frozen more_more more_setCell more_of_drew more_of_drewN lt_more le_more past_cell past_cell2 past_frozen past_frozen2 past_setCell past_setCell2 mid_cell mid_frozen mid_setCell
attribute [local go_sem ↓] Go.wp_at_zero Go.wp_at_succ

theorem infoV14 : (Try.prog.info? 23).map (fun i => (i.zero, i.size, i.bytes)) = some (some (.agg #[.int .i64 0, .int .i64 0, .string ⟨#[]⟩]), 3, 32) := by kernel_rfl
def vcL (v : Vl) : List Value := [.int .i64 v.k, .int .i64 v.i, .string v.s]
def flatV (m : List Vl) : List Value := (m.map vcL).flatten
theorem flatV_snoc (m : List Vl) (v : Vl) : flatV m ++ [.int .i64 v.k, .int .i64 v.i, .string v.s] = flatV (m ++ [v]) := by
  unfold flatV
  rw [List.map_append, List.flatten_append]
  rfl
theorem vls_flat (m : List Vl) : ListR VlR 3 m (m.map vcL) := by
  refine ⟨by simp, fun i x cs h1 h2 => ?_⟩
  rw [List.getElem?_map, h1] at h2
  simp only [Option.map_some, Option.some.injEq] at h2
  subst h2
  exact ⟨rfl, rfl⟩
theorem vlsR_flat {w : World} {A : Option Addr} {m : List Vl} (h : Row w A (flatV m)) : VlsR (PRow w) A m := ⟨m.map vcL, vls_flat m, h⟩
theorem own_rowV {w : World} {base n c : Nat} {A : Option Addr} {e : TypeId} {xs : List Value} (h : w.ownsRow base e 3 (.slice A n c) n xs) : Row w A xs := by
  obtain ⟨A', c', he, hr⟩ := own_row h
  injection he with h1 h2 h3
  rw [h1]
  exact hr
theorem numL_all {m : List Vl} (h : (m.any fun v => !(v.k == 1)) = false) : numL m = m.map Vl.i := by
  unfold numL
  rw [List.filter_eq_self.2]
  intro v hv
  have := (List.any_eq_false.1 h) v hv
  simpa using this
theorem totalP_sum (op : Int) (l : List Vl) : totalP (defS op l) = sumP (someL l) := by
  unfold totalP sumP defS
  simp only
  cases h : ((someL l).any fun v => !(v.k == 1))
  · rw [numL_all h]
    simp only [Bool.false_eq_true, if_false]
    by_cases h0 : (someL l).length = 0
    · have hn : someL l = [] := List.eq_nil_of_length_eq_zero h0
      rw [hn]
      rfl
    · rw [if_neg h0, if_neg h0]
  · simp
theorem extremeP_best (op : Int) (l : List Vl) : extremeP (defS op l) = (bestL op (someL l), 0) := by
  unfold extremeP defS
  simp only
  by_cases h0 : (someL l).length = 0
  · have hn : someL l = [] := List.eq_nil_of_length_eq_zero h0
    rw [hn]
    rfl
  · rw [if_neg h0]
theorem tellS_cases (op : Int) (l : List Vl) : (op = 17 ∧ tellS op l = (⟨1, l.length, ⟨#[]⟩⟩, 0)) ∨ (op = 18 ∧ tellS op l = (⟨1, (someL l).length, ⟨#[]⟩⟩, 0)) ∨ (op = 19 ∧ tellS op l = sumP (someL l)) ∨ (op = 20 ∧ tellS op l = (bestL op (someL l), 0)) ∨ (op = 21 ∧ tellS op l = (bestL op (someL l), 0)) ∨ ((op == 17) = false ∧ (op == 18) = false ∧ (op == 19) = false ∧ (op != 20) = true ∧ (op != 21) = true ∧ tellS op l = (zV, 3)) := by
  rcases resS_cases (defS op l) with ⟨h, e⟩ | ⟨h, e⟩ | ⟨h, e⟩ | ⟨h, e⟩ | ⟨h, e⟩ | ⟨h1, h2, h3, h4, h5, e⟩
  · exact Or.inl ⟨h, e⟩
  · exact Or.inr (Or.inl ⟨h, e⟩)
  · exact Or.inr (Or.inr (Or.inl ⟨h, e.trans (totalP_sum op l)⟩))
  · exact Or.inr (Or.inr (Or.inr (Or.inl ⟨h, e.trans (extremeP_best op l)⟩)))
  · exact Or.inr (Or.inr (Or.inr (Or.inr (Or.inl ⟨h, e.trans (extremeP_best op l)⟩))))
  · refine Or.inr (Or.inr (Or.inr (Or.inr (Or.inr ⟨h1, h2, h3, ?_, ?_, e⟩))))
    · show (!(op == 20)) = true
      rw [show (op == 20) = false from h4]; rfl
    · show (!(op == 21)) = true
      rw [show (op == 21) = false from h5]; rfl
theorem bestL_take {op : Int} {m : List Vl} {i : Nat} (h : i < m.length) : bestL op (m.take (i + 1)) = if i = 0 ∨ betterB op m[i] (bestL op (m.take i)) = true then m[i] else bestL op (m.take i) := by
  rw [List.take_succ_eq_append_getElem h, bestL_snoc, List.length_take, Nat.min_eq_left (by omega)]
def Some14At (u : World) (l : List Vl) (v i : Value) (wr : World) : Prop :=
  ∃ (j : Nat) (A : Option Addr) (c : Nat), j ≤ l.length ∧ i = .int .i64 j ∧ v = .slice A (someL (l.take j)).length c ∧ wr.ownsRow u.heap.size 23 3 (.slice A (someL (l.take j)).length c) (someL (l.take j)).length (flatV (someL (l.take j))) ∧ Grew u wr
def Best14At (u : World) (op : Int) (m : List Vl) (g : Nat) (i : Value) (wr : World) : Prop :=
  ∃ j : Nat, j ≤ m.length ∧ i = .int .i64 j ∧ Grew u wr ∧ Blok wr g 23 #[.int .i64 (bestL op (m.take j)).k, .int .i64 (bestL op (m.take j)).i, .string (bestL op (m.take j)).s]
set_option maxHeartbeats 8000000 in
set_option maxRecDepth 100000 in
theorem rof_any (op : Int) (l : List Vl) (hl : l.length ≤ 100000) (hv : ∀ v ∈ l, VlOk v) (A : Option Addr) (k : Nat) (w : World) (ra : VlsR (PRow w) A l) :
    Gives Try.prog 33 #[.int .i64 op, .slice A l.length k] w (.tuple #[vlV (tellS op l).1, .int .i64 (tellS op l).2]) := by
  have RA := Lib.hid ra
  have HV := Lib.hid (someL_ok hv)
  have HML : Hid ((someL l).length ≤ 100000) := Lib.hid (Nat.le_trans (someL_le l) hl)
  have hc := tellS_cases op l
  obtain ⟨⟨⟨rk, ri, rs⟩, re⟩, hr⟩ : ∃ r, tellS op l = r := ⟨_, rfl⟩
  rw [hr] at hc ⊢
  have HC := Lib.hid hc
  clear hr ra hv hc
  obtain ⟨W0, hW0⟩ : ∃ W0, W0 = w.alloc (.cells #[.int .i64 0, .int .i64 0, .string ⟨#[]⟩] 23) := ⟨_, rfl⟩
  have HG0 : Hid (Grew w W0) := Lib.hid (by rw [hW0]; exact (Grew.refl w).alloc _)
  have HB0 : Hid (Blok W0 w.heap.size 23 #[.int .i64 0, .int .i64 0, .string ⟨#[]⟩]) := Lib.hid (by rw [hW0]; exact Blok.new _ _ _ _ rfl)
  unfold Gives
  go_enter Try.func33, Try.ntmps33
  go_upto_region 1 with fail
  rw [← hW0]
  clear hW0
  generalize hgr : w.heap.size = gr at *
  have HGR := Lib.hid hgr
  clear hgr
  go_wp2
  go_loopw [6, 7] (fun v i wr => Some14At W0 l v i wr) (fun _ i _ => l.length - (intOf i).toNat)
  case atStart => exact ⟨0, none, 0, Nat.zero_le _, rfl, rfl, own_none _ _ _ _, by (show Grew _ _; repeat (first | exact Grew.refl _ | refine Grew.alloc ?_ _ | refine Grew.drew ?_ | refine Grew.more ?_ _))⟩
  case round =>
    obtain ⟨j, B, cB, hj, rfl, rfl, ho, hg⟩ := hrel
    have HO := Lib.hid ho
    have HG := Lib.hid hg
    clear ho hg
    by_cases h : j < l.length
    · obtain ⟨b, o, rfl, hlb, q0, q1, q2⟩ := vlsR_at (RA.out.grew (HG0.out.trans HG.out)) h
      have HSn : Hid (someL (l.take (j + 1)) = if l[j].k = 0 then someL (l.take j) else someL (l.take j) ++ [l[j]]) := Lib.hid (by rw [List.take_succ_eq_append_getElem h, someL_snoc])
      have hsl : (someL (l.take j)).length ≤ j := Nat.le_trans (someL_le _) (by rw [List.length_take]; omega)
      clear HC HV HML
      generalize someL (l.take j) = s at *
      generalize l[j] = x at *
      by_cases hx : x.k = 0
      · have hx1 : (x.k == 0) = true := by simpa using hx
        rw [if_pos hx] at HSn
        have HF : Hid (Some14At W0 l (.slice B s.length cB) (.int .i64 ((j : Int) + 1)) wr) := Lib.hid ⟨j + 1, B, cB, by omega, by go_num, by rw [HSn.out], by rw [HSn.out]; exact HO.out, HG.out⟩
        clear hx
        generalize hsn : s.length = n at *
        clear hsn
        go_wp2
        exact ⟨HF.out, by simp only [intOf]; omega⟩
      · have hx1 : (x.k == 0) = false := by simpa using hx
        rw [if_neg hx] at HSn
        have HFl := Lib.hid (flatV_snoc s x)
        have HLn : Hid (s.length + 1 = (s ++ [x]).length) := Lib.hid (by simp)
        have HF : Hid (∀ A3 c3 w3, w3.ownsRow W0.heap.size 23 3 (.slice A3 (s.length + 1) c3) (s.length + 1) (flatV s ++ [.int .i64 x.k, .int .i64 x.i, .string x.s]) → Grew W0 w3 → Some14At W0 l (.slice A3 (s.length + 1) c3) (.int .i64 ((j : Int) + 1)) w3) := Lib.hid fun A3 c3 w3 h1 h2 => ⟨j + 1, A3, c3, by omega, by go_num, by rw [HSn.out, ← HLn.out], by rw [HSn.out, ← HLn.out, ← HFl.out]; exact h1, h2⟩
        clear hx HSn HFl HLn
        generalize flatV s = M at *
        generalize hsn : s.length = n at *
        clear hsn
        go_wp2_with (at_builtin; refine wpList_apps rfl (.tmp 23) (.tmp 28) 46 23 3 rfl W0 (.agg #[.int .i64 0, .int .i64 0, .string ⟨#[]⟩]) 32 Try.underlying46 infoV14 rfl (by decide) (by decide) _ _ _ rfl (own_alloc HO.out _) _ 1 1 [.int .i64 x.k, .int .i64 x.i, .string x.s] rfl rfl (row_new _ _ _ _ rfl) (by simp [Value.oneCell']) (by omega) (HG.out.alloc _) ?_; intro A3 c3 w3 ho3 _ hg3 _ _; have HX := Lib.hid (HF.out A3 c3 w3 ho3 hg3); clear ho3 hg3)
        exact ⟨HX.out, by simp only [intOf]; omega⟩
    · obtain rfl : j = l.length := by omega
      rw [List.take_length] at HO ⊢
      have RM : Hid (VlsR (PRow wr) B (someL l)) := Lib.hid (vlsR_flat (own_rowV HO.out))
      have HB2 := Lib.hid (HB0.out.grew HG.out)
      have HG2 := Lib.hid (HG0.out.trans HG.out)
      generalize someL l = m at *
      generalize hln : l.length = ln at *
      clear hln HO HB0 HG0 HG RA
      obtain ⟨p1, c0, c1, c2, d0, d1, d2⟩ := val_in HB2.out
      rcases HC.out with ⟨rfl, hr⟩ | ⟨rfl, hr⟩ | ⟨rfl, hr⟩ | ⟨rfl, hr⟩ | ⟨rfl, hr⟩ | ⟨e1, e2, e3, e4, e5, hr⟩
      · simp only [Prod.mk.injEq, Vl.mk.injEq] at hr
        obtain ⟨⟨rfl, rfl, rfl⟩, rfl⟩ := hr
        clear HC
        go_wp2
        have hb := val_set HB2.out (.int .i64 1) (.int .i64 (ln : Int)) (.string ⟨#[]⟩)
        obtain ⟨_, r0, r1, r2, _, _, _⟩ := val_in hb
        exact bodyPost_ret (v := .tuple #[.agg #[.int .i64 1, .int .i64 (ln : Int), .string ⟨#[]⟩], .int .i64 0]) (by simp [results, Try.results33, go_sem, r0, r1, r2]) rfl ⟨rfl, grew_set3 HG2.out (by rw [HGR.out]; exact Nat.le_refl _) _ _ _⟩
      · simp only [Prod.mk.injEq, Vl.mk.injEq] at hr
        obtain ⟨⟨rfl, rfl, rfl⟩, rfl⟩ := hr
        clear HC HV HML RM
        generalize hmn : m.length = mn at *
        have HMN := Lib.hid hmn
        clear hmn
        go_wp2
        have hb := val_set HB2.out (.int .i64 1) (.int .i64 (mn : Int)) (.string ⟨#[]⟩)
        obtain ⟨_, r0, r1, r2, _, _, _⟩ := val_in hb
        exact bodyPost_ret (v := .tuple #[.agg #[.int .i64 1, .int .i64 (mn : Int), .string ⟨#[]⟩], .int .i64 0]) (by simp [results, Try.results33, go_sem, r0, r1, r2]) rfl ⟨by rw [HMN.out]; rfl, grew_set3 HG2.out (by rw [HGR.out]; exact Nat.le_refl _) _ _ _⟩
      · have HSu : Hid (∀ W, Grew wr W → Gives Try.prog 103 #[.slice B m.length cB] W (.tuple #[.agg #[.int .i64 rk, .int .i64 ri, .string rs], .int .i64 re])) := Lib.hid fun W hW => by
          have := sum14_any m HML.out HV.out B cB W (RM.out.grew hW)
          rw [← hr] at this
          exact this
        clear HC HV HML RM hr p1 c0 c1 c2 d0 d1 d2
        generalize hmn : m.length = mn at *
        clear hmn
        go_wp2_with fail
        refine (HSu.out _ (Grew.refl _)).grows.mono ?_
        rintro e w3 ⟨rfl, hg3⟩
        have HG3 := Lib.hid (HG2.out.trans hg3)
        have HB3 := Lib.hid (HB2.out.grew hg3)
        clear hg3 HSu
        obtain ⟨p1, c0, c1, c2, d0, d1, d2⟩ := val_in HB3.out
        go_wp2
        have hb := val_set HB3.out (.int .i64 rk) (.int .i64 ri) (.string rs)
        obtain ⟨_, r0, r1, r2, _, _, _⟩ := val_in hb
        exact bodyPost_ret (v := .tuple #[.agg #[.int .i64 rk, .int .i64 ri, .string rs], .int .i64 re]) (by simp [results, Try.results33, go_sem, r0, r1, r2]) rfl ⟨rfl, grew_set3 HG3.out (by rw [HGR.out]; exact Nat.le_refl _) _ _ _⟩
      · clear HC p1 c0 c1 c2 d0 d1 d2
        obtain ⟨W3, hW3⟩ : ∃ W3, W3 = wr.alloc (.cells #[.int .i64 0, .int .i64 0, .string ⟨#[]⟩] 23) := ⟨_, rfl⟩
        have HG3 : Hid (Grew wr W3) := Lib.hid (by rw [hW3]; exact (Grew.refl wr).alloc _)
        have HX3 : Hid (Blok W3 wr.heap.size 23 #[.int .i64 0, .int .i64 0, .string ⟨#[]⟩]) := Lib.hid (by rw [hW3]; exact Blok.new _ _ _ _ rfl)
        skip
        have HML' : Hid (m.length ≤ 100000) := HML
        have hml := HML.out
        have HR : Hid (((⟨rk, ri, rs⟩ : Vl), re) = (bestL 20 m, 0)) := Lib.hid hr
        clear hr
        go_upto_region 16 with fail
        rw [← hW3]
        clear hW3
        generalize hgw : wr.heap.size = g at *
        have HGE := Lib.hid (Nat.le_of_eq hgw)
        clear hgw
        obtain ⟨wo, hwo⟩ : ∃ wo : World, wo = wr := ⟨_, rfl⟩
        subst hwo
        go_wp2
        go_loopw [9] (fun i wr => Best14At wo 20 m g i wr) (fun i _ => m.length - (intOf i).toNat)
        case atStart => exact ⟨0, Nat.zero_le _, rfl, HG3.out, HX3.out⟩
        case round =>
          obtain ⟨i, hi, rfl, hg, hb⟩ := hrel
          have HG4 := Lib.hid hg
          have HB4 := Lib.hid hb
          clear hg hb
          by_cases h : i < m.length
          · obtain ⟨b, o, rfl, hlb, q0, q1, q2⟩ := vlsR_at (RM.out.grew HG4.out) h
            have HBt := Lib.hid (bestL_take (op := 20) h)
            have hsz := (HV.out _ (List.getElem_mem h)).2.2
            generalize m[i] = x at *
            obtain ⟨b', hb'⟩ : ∃ b', bestL 20 (m.take (i + 1)) = b' := ⟨_, rfl⟩
            have HB' := Lib.hid hb'
            rw [hb'] at HBt
            clear hb'
            generalize bestL 20 (m.take i) = y at *
            have HOr : Hid (∀ W, Gives Try.prog 104 #[.agg #[.int .i64 x.k, .int .i64 x.i, .string x.s], .agg #[.int .i64 y.k, .int .i64 y.i, .string y.s]] W (.int .i64 (orderV x y))) := Lib.hid fun W => rorder_any _ _ _ _ _ _ (Nat.le_trans hsz (by decide)) W
            have hcase : (i = 0 ∧ b' = x) ∨ (((i : Int) == 0) = false ∧ orderV x y < 0 ∧ b' = x) ∨ (((i : Int) == 0) = false ∧ 0 ≤ orderV x y ∧ b' = y) := by
              rw [HBt.out]
              by_cases c1 : i = 0
              · exact Or.inl ⟨c1, if_pos (Or.inl c1)⟩
              · have c2 : ((i : Int) == 0) = false := by simpa using c1
                by_cases c3 : orderV x y < 0
                · exact Or.inr (Or.inl ⟨c2, c3, if_pos (Or.inr (by simp [betterB, c3]))⟩)
                · exact Or.inr (Or.inr ⟨c2, by omega, if_neg (by simp [betterB, c1]; omega)⟩)
            clear HBt hsz
            generalize orderV x y = od at *
            obtain ⟨s1, z0, z1, z2, y0, y1, y2⟩ := val_in HB4.out
            go_upto_region 19 with fail
            refine wp_region_more (by kernel_rfl) (by kernel_rfl) ?_
            repeat (go_big_quiet_step ((first | (go_at_call 104; with_reducible exact (HOr.out _).within))))
            refine wpQuiet_nil ?_
            rintro _ ⟨z, rfl⟩
            have HG5 : Hid (Grew wo (more wr z)) := Lib.hid (HG4.out.more z)
            have HB5 := Lib.hid (HB4.out.more z)
            clear s1 z0 z1 z2 y0 y1 y2
            have q0' := q0
            obtain ⟨s1, z0, z1, z2, y0, y1, y2⟩ := val_in HB5.out
            rcases hcase with ⟨c1, rfl⟩ | ⟨c1, c2, rfl⟩ | ⟨c1, c2, rfl⟩
            · have c3 : ((i : Int) == 0) = true := by simp [c1]
              clear c1
              go_wp2
              exact ⟨⟨i + 1, by omega, by go_num, grew_set3 HG5.out (by exact HGE.out) _ _ _, by rw [HB'.out]; exact val_set HB5.out _ _ _⟩, by simp only [intOf]; omega⟩
            · clear HB4
              go_wp2
              exact ⟨⟨i + 1, by omega, by go_num, grew_set3 HG5.out (by exact HGE.out) _ _ _, by rw [HB'.out]; exact val_set HB5.out _ _ _⟩, by simp only [intOf]; omega⟩
            · clear HB4
              go_wp2
              exact ⟨⟨i + 1, by omega, by go_num, HG5.out, by rw [HB'.out]; exact HB5.out⟩, by simp only [intOf]; omega⟩
          · obtain rfl : i = m.length := by omega
            rw [List.take_length] at HB4
            have HR2 := Lib.hid (Prod.mk.inj HR.out)
            generalize bestL 20 m = y at *
            obtain ⟨yk, yi, ys⟩ := y
            have h2 := HR2.out
            simp only [Vl.mk.injEq] at h2
            obtain ⟨⟨rfl, rfl, rfl⟩, rfl⟩ := h2
            clear HR2 HR HX3
            simp only at HB4
            have HB5 := Lib.hid (HB2.out.grew HG4.out)
            have HG5 := Lib.hid (HG2.out.trans HG4.out)
            obtain ⟨p1, c0, c1, c2, d0, d1, d2⟩ := val_in HB5.out
            obtain ⟨s1, z0, z1, z2, y0, y1, y2⟩ := val_in HB4.out
            go_wp2
            have hb := val_set HB5.out (.int .i64 rk) (.int .i64 ri) (.string rs)
            obtain ⟨_, r0, r1, r2, _, _, _⟩ := val_in hb
            exact bodyPost_ret (v := .tuple #[.agg #[.int .i64 rk, .int .i64 ri, .string rs], .int .i64 0]) (by simp [results, Try.results33, go_sem, r0, r1, r2]) rfl ⟨rfl, grew_set3 HG5.out (by rw [HGR.out]; exact Nat.le_refl _) _ _ _⟩
      · clear HC p1 c0 c1 c2 d0 d1 d2
        obtain ⟨W3, hW3⟩ : ∃ W3, W3 = wr.alloc (.cells #[.int .i64 0, .int .i64 0, .string ⟨#[]⟩] 23) := ⟨_, rfl⟩
        have HG3 : Hid (Grew wr W3) := Lib.hid (by rw [hW3]; exact (Grew.refl wr).alloc _)
        have HX3 : Hid (Blok W3 wr.heap.size 23 #[.int .i64 0, .int .i64 0, .string ⟨#[]⟩]) := Lib.hid (by rw [hW3]; exact Blok.new _ _ _ _ rfl)
        skip
        have HML' : Hid (m.length ≤ 100000) := HML
        have hml := HML.out
        have HR : Hid (((⟨rk, ri, rs⟩ : Vl), re) = (bestL 21 m, 0)) := Lib.hid hr
        clear hr
        go_upto_region 16 with fail
        rw [← hW3]
        clear hW3
        generalize hgw : wr.heap.size = g at *
        have HGE := Lib.hid (Nat.le_of_eq hgw)
        clear hgw
        obtain ⟨wo, hwo⟩ : ∃ wo : World, wo = wr := ⟨_, rfl⟩
        subst hwo
        go_wp2
        go_loopw [9] (fun i wr => Best14At wo 21 m g i wr) (fun i _ => m.length - (intOf i).toNat)
        case atStart => exact ⟨0, Nat.zero_le _, rfl, HG3.out, HX3.out⟩
        case round =>
          obtain ⟨i, hi, rfl, hg, hb⟩ := hrel
          have HG4 := Lib.hid hg
          have HB4 := Lib.hid hb
          clear hg hb
          by_cases h : i < m.length
          · obtain ⟨b, o, rfl, hlb, q0, q1, q2⟩ := vlsR_at (RM.out.grew HG4.out) h
            have HBt := Lib.hid (bestL_take (op := 21) h)
            have hsz := (HV.out _ (List.getElem_mem h)).2.2
            generalize m[i] = x at *
            obtain ⟨b', hb'⟩ : ∃ b', bestL 21 (m.take (i + 1)) = b' := ⟨_, rfl⟩
            have HB' := Lib.hid hb'
            rw [hb'] at HBt
            clear hb'
            generalize bestL 21 (m.take i) = y at *
            have HOr : Hid (∀ W, Gives Try.prog 104 #[.agg #[.int .i64 x.k, .int .i64 x.i, .string x.s], .agg #[.int .i64 y.k, .int .i64 y.i, .string y.s]] W (.int .i64 (orderV x y))) := Lib.hid fun W => rorder_any _ _ _ _ _ _ (Nat.le_trans hsz (by decide)) W
            have hcase : (i = 0 ∧ b' = x) ∨ (((i : Int) == 0) = false ∧ 0 < orderV x y ∧ b' = x) ∨ (((i : Int) == 0) = false ∧ orderV x y ≤ 0 ∧ b' = y) := by
              rw [HBt.out]
              by_cases c1 : i = 0
              · exact Or.inl ⟨c1, if_pos (Or.inl c1)⟩
              · have c2 : ((i : Int) == 0) = false := by simpa using c1
                by_cases c3 : 0 < orderV x y
                · exact Or.inr (Or.inl ⟨c2, c3, if_pos (Or.inr (by simp [betterB, c3]))⟩)
                · exact Or.inr (Or.inr ⟨c2, by omega, if_neg (by simp [betterB, c1]; omega)⟩)
            clear HBt hsz
            generalize orderV x y = od at *
            obtain ⟨s1, z0, z1, z2, y0, y1, y2⟩ := val_in HB4.out
            go_upto_region 19 with fail
            refine wp_region_more (by kernel_rfl) (by kernel_rfl) ?_
            repeat (go_big_quiet_step ((first | (go_at_call 104; with_reducible exact (HOr.out _).within))))
            refine wpQuiet_nil ?_
            rintro _ ⟨z, rfl⟩
            have HG5 : Hid (Grew wo (more wr z)) := Lib.hid (HG4.out.more z)
            have HB5 := Lib.hid (HB4.out.more z)
            clear s1 z0 z1 z2 y0 y1 y2
            have q0' := q0
            obtain ⟨s1, z0, z1, z2, y0, y1, y2⟩ := val_in HB5.out
            rcases hcase with ⟨c1, rfl⟩ | ⟨c1, c2, rfl⟩ | ⟨c1, c2, rfl⟩
            · have c3 : ((i : Int) == 0) = true := by simp [c1]
              clear c1
              go_wp2
              exact ⟨⟨i + 1, by omega, by go_num, grew_set3 HG5.out (by exact HGE.out) _ _ _, by rw [HB'.out]; exact val_set HB5.out _ _ _⟩, by simp only [intOf]; omega⟩
            · clear HB4
              go_wp2
              exact ⟨⟨i + 1, by omega, by go_num, grew_set3 HG5.out (by exact HGE.out) _ _ _, by rw [HB'.out]; exact val_set HB5.out _ _ _⟩, by simp only [intOf]; omega⟩
            · clear HB4
              go_wp2
              exact ⟨⟨i + 1, by omega, by go_num, HG5.out, by rw [HB'.out]; exact HB5.out⟩, by simp only [intOf]; omega⟩
          · obtain rfl : i = m.length := by omega
            rw [List.take_length] at HB4
            have HR2 := Lib.hid (Prod.mk.inj HR.out)
            generalize bestL 21 m = y at *
            obtain ⟨yk, yi, ys⟩ := y
            have h2 := HR2.out
            simp only [Vl.mk.injEq] at h2
            obtain ⟨⟨rfl, rfl, rfl⟩, rfl⟩ := h2
            clear HR2 HR HX3
            simp only at HB4
            have HB5 := Lib.hid (HB2.out.grew HG4.out)
            have HG5 := Lib.hid (HG2.out.trans HG4.out)
            obtain ⟨p1, c0, c1, c2, d0, d1, d2⟩ := val_in HB5.out
            obtain ⟨s1, z0, z1, z2, y0, y1, y2⟩ := val_in HB4.out
            go_wp2
            have hb := val_set HB5.out (.int .i64 rk) (.int .i64 ri) (.string rs)
            obtain ⟨_, r0, r1, r2, _, _, _⟩ := val_in hb
            exact bodyPost_ret (v := .tuple #[.agg #[.int .i64 rk, .int .i64 ri, .string rs], .int .i64 0]) (by simp [results, Try.results33, go_sem, r0, r1, r2]) rfl ⟨rfl, grew_set3 HG5.out (by rw [HGR.out]; exact Nat.le_refl _) _ _ _⟩
      · unfold zV at hr
        simp only [Prod.mk.injEq, Vl.mk.injEq] at hr
        obtain ⟨⟨rfl, rfl, rfl⟩, rfl⟩ := hr
        clear HC HV HML RM
        generalize hmn : m.length = mn at *
        clear hmn
        go_wp2
        have hb := val_set HB2.out (.int .i64 0) (.int .i64 0) (.string ⟨#[]⟩)
        obtain ⟨_, r0, r1, r2, _, _, _⟩ := val_in hb
        exact bodyPost_ret (v := .tuple #[.agg #[.int .i64 0, .int .i64 0, .string ⟨#[]⟩], .int .i64 3]) (by simp [results, Try.results33, go_sem, r0, r1, r2]) rfl ⟨rfl, grew_set3 HG2.out (by rw [HGR.out]; exact Nat.le_refl _) _ _ _⟩
end Go.Proofs.Ytddambfniaiogaa
