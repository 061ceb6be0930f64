/- The law of the order of joins, of layer 6. Condition: pairs lie in memory that is there. -/
import Derived.Test.YthngafgblehpoaaUfMath
import Derived.Test.YthngafgblehpoaaStep
namespace Go.Proofs.Ythngafgblehpoaa
open Go.RowKit
attribute [local go_sem] more_cell more_frozen more_more more_setCell more_of_drew more_of_drewN lt_more le_more past_cell past_cell2 past_frozen past_frozen2 past_setCell past_setCell2 mid_cell mid_frozen mid_setCell
attribute [local go_sem ↓] Go.wp_at_zero Go.wp_at_succ

theorem flat_at (l : List (Int × Int)) : ∀ i, (pairsC l).flatten[i * 2]? = (l[i]?).map (fun p => Value.int .i64 p.1) ∧ (pairsC l).flatten[i * 2 + 1]? = (l[i]?).map (fun p => Value.int .i64 p.2) := by
  induction l with
  | nil => intro i; simp [pairsC]
  | cons p l ih =>
    intro i
    cases i with
    | zero => simp [pairsC]
    | succ i =>
      have h := ih i
      have e : (i + 1) * 2 = i * 2 + 2 := by omega
      rw [e]
      exact h
theorem grid_of_row {w : World} {A : Option Addr} {l : List (Int × Int)} (h : Row w A (pairsC l).flatten) : Grid w A 2 (pairsC l) := by
  rcases h with h | ⟨b, o, hA, hb, hc⟩
  · refine Or.inl ?_
    cases l with
    | nil => rfl
    | cons p l => simp [pairsC] at h
  · refine Or.inr ⟨b, o, hA, hb, ?_⟩
    intro i cs hi j u hu
    unfold pairsC at hi
    rw [List.getElem?_map, Option.map_eq_some_iff] at hi
    obtain ⟨p, hp, rfl⟩ := hi
    have hf := flat_at l i
    rw [hp] at hf
    refine hc _ _ ?_
    match j, hu with
    | 0, hu => rw [Nat.add_zero, hf.1]; simpa using hu
    | 1, hu => rw [hf.2]; simpa using hu
    | j + 2, hu => simp at hu
/-- The last ones, in the other order, each turned round. -/
def revL (l : List (Int × Int)) (j : Nat) : List (Int × Int) := (l.reverse.take j).map fun p => (p.2, p.1)
theorem revL_len (l : List (Int × Int)) (j : Nat) (h : j ≤ l.length) : (revL l j).length = j := by
  unfold revL
  rw [List.length_map, List.length_take, List.length_reverse]
  omega
theorem revL_succ (l : List (Int × Int)) (r : Nat) (h : r < l.length) : revL l (l.length - r) = revL l (l.length - (r + 1)) ++ [(l[r].2, l[r].1)] := by
  have e : l.length - r = l.length - (r + 1) + 1 := by omega
  rw [e]
  unfold revL
  rw [List.take_succ_eq_append_getElem (by rw [List.length_reverse]; omega), List.map_append, List.map_singleton, List.getElem_reverse]
  have e2 : l.length - 1 - (l.length - (r + 1)) = r := by omega
  simp only [e2]
theorem revL_mem (l : List (Int × Int)) (p : Int × Int) : p ∈ revL l l.length ↔ (p.2, p.1) ∈ l := by
  unfold revL
  rw [List.take_of_length_le (by rw [List.length_reverse]; exact Nat.le_refl _)]
  simp only [List.mem_map, List.mem_reverse]
  constructor
  · rintro ⟨q, hq, rfl⟩; exact hq
  · intro h; exact ⟨_, h, rfl⟩
theorem foldR_rev (n : Nat) (l : List (Int × Int)) (i : Nat) (hi : i < n) : foldR n (revL l l.length) i = foldR n l i :=
  foldR_order n _ _ (fun p hp => Or.inr ((revL_mem l p).1 hp)) (fun _ hp => Or.inr ((revL_mem l _).2 hp)) i hi
theorem infoPair : (Try.prog.info? 29).map (fun i => (i.zero, i.size, i.bytes)) = some (some (.agg #[.int .i64 0, .int .i64 0]), 2, 16) := by kernel_rfl
def BackAt (u : World) (l : List (Int × Int)) (v i : Value) (wr : World) : Prop :=
  ∃ (q : Nat) (A : Option Addr) (c : Nat), q ≤ l.length ∧ i = .int .i64 ((q : Int) - 1) ∧ v = .slice A (l.length - q) c ∧ wr.ownsRow u.heap.size 29 2 (.slice A (l.length - q) c) (l.length - q) (pairsC (revL l (l.length - q))).flatten ∧ Grew u wr
theorem play_len (m : Int) (k : Nat) (hk : (k : Int) = m % 40) (l : List (Int × Int)) (n : Nat) (hn : l.length = n) (hl : n ≤ 100000) (hm : 0 ≤ m) (hm' : m < 256) (P : Option Addr) (d : Nat) (w : World) (hp : Grid w P 2 (pairsC l)) :
    Calls Try.prog 23 #[.int .u8 m, .slice P n d] w (Played w k l) := by
  subst hn
  exact play_any m k hk l hl hm hm' P d w hp
/-- Two plays' classes. -/
structure Two (u : World) (g h g2 h2 n : Nat) (r : Nat → Nat) (w : World) : Prop where
  one : UfS u g h n r w
  two : UfS u g2 h2 n r w
  gg : g ≠ g2 ∧ g ≠ h2 ∧ h ≠ g2 ∧ h ≠ h2
theorem UfS.far {u w w' : World} {g h g2 h2 n : Nat} {r : Nat → Nat} (s : UfS u g h n r w) (hu : u.heap.size ≤ g2 ∧ u.heap.size ≤ h2) (k : Keep2 w w' g2 h2) (hg : g ≠ g2 ∧ g ≠ h2 ∧ h ≠ g2 ∧ h ≠ h2) : UfS u g h n r w' := by
  obtain ⟨f, a, b⟩ := s.lies
  refine ⟨k.grew s.grew hu.1 hu.2, s.gu, s.hu, s.least, f, ⟨?_, ?_, a.ne, a.small⟩, b⟩
  · exact (k.block g a.top.lt hg.1 hg.2.1).trans a.top
  · exact (k.block h a.row.lt hg.2.2.1 hg.2.2.2).trans a.row
theorem Two.same1 (a b : Int) (t : Bool) (u w : World) (g h g2 h2 n : Nat) (r : Nat → Nat) (s : Two u g h g2 h2 n r w) (ht : sameB n r a b = t) :
    Calls Try.prog 20 #[.pointer (some ⟨g, 0, none⟩), .int .i64 a, .int .i64 b] w fun e w' => e = .returned (.bool t) ∧ Two u g h g2 h2 n r w' :=
  (uf_same a b u w g h n r s.one t ht).mono fun _ _ ⟨he, s1, k1⟩ => ⟨he, s1, s.two.far ⟨s.one.gu, s.one.hu⟩ k1 ⟨s.gg.1.symm, s.gg.2.2.1.symm, s.gg.2.1.symm, s.gg.2.2.2.symm⟩, s.gg⟩
theorem Two.same2 (a b : Int) (t : Bool) (u w : World) (g h g2 h2 n : Nat) (r : Nat → Nat) (s : Two u g h g2 h2 n r w) (ht : sameB n r a b = t) :
    Calls Try.prog 20 #[.pointer (some ⟨g2, 0, none⟩), .int .i64 a, .int .i64 b] w fun e w' => e = .returned (.bool t) ∧ Two u g h g2 h2 n r w' :=
  (uf_same a b u w g2 h2 n r s.two t ht).mono fun _ _ ⟨he, s1, k1⟩ => ⟨he, s.one.far ⟨s.two.gu, s.two.hu⟩ k1 s.gg, s1, s.gg⟩
theorem Two.find1 (a x : Int) (u w : World) (g h g2 h2 n : Nat) (r : Nat → Nat) (s : Two u g h g2 h2 n r w) (hx : findI n r a = x) :
    Calls Try.prog 21 #[.pointer (some ⟨g, 0, none⟩), .int .i64 a] w fun e w' => e = .returned (.int .i64 x) ∧ Two u g h g2 h2 n r w' :=
  (uf_find a x u w g h n r s.one hx).mono fun _ _ ⟨he, s1, k1⟩ => ⟨he, s1, s.two.far ⟨s.one.gu, s.one.hu⟩ k1 ⟨s.gg.1.symm, s.gg.2.2.1.symm, s.gg.2.1.symm, s.gg.2.2.2.symm⟩, s.gg⟩
theorem Two.find2 (a x : Int) (u w : World) (g h g2 h2 n : Nat) (r : Nat → Nat) (s : Two u g h g2 h2 n r w) (hx : findI n r a = x) :
    Calls Try.prog 21 #[.pointer (some ⟨g2, 0, none⟩), .int .i64 a] w fun e w' => e = .returned (.int .i64 x) ∧ Two u g h g2 h2 n r w' :=
  (uf_find a x u w g2 h2 n r s.two hx).mono fun _ _ ⟨he, s1, k1⟩ => ⟨he, s.one.far ⟨s.two.gu, s.two.hu⟩ k1 s.gg, s1, s.gg⟩
theorem UfS.congr {u w : World} {g h n : Nat} {r r' : Nat → Nat} (s : UfS u g h n r w) (h' : ∀ i, i < n → r i = r' i) : UfS u g h n r' w := by
  obtain ⟨f, a, b⟩ := s.lies
  have hc : ∀ m, m ≤ n → rootsN m r' = rootsN m r := by
    intro m
    induction m with
    | zero => intro _; rfl
    | succ m ih => intro hm; show rootsN m r' + (if r' m = m then 1 else 0) = rootsN m r + (if r m = m then 1 else 0); rw [ih (by omega), h' m (by omega)]
  refine ⟨s.grew, s.gu, s.hu, ⟨fun i hi => by rw [← h' i hi]; exact s.least.le i hi, fun i hi => ?_⟩, f, by rw [hc n (Nat.le_refl _)]; exact a, ⟨b.le, fun i hi => ?_, fun i hi hf => by rw [← h' i hi]; exact b.root i hi hf⟩⟩
  · have h1 := s.least.le i hi
    rw [← h' i hi, ← h' (r i) (by omega)]
    exact s.least.idem i hi
  · have h1 := b.le i hi
    rw [← h' i hi, ← h' (f i) (by omega)]
    exact b.same i hi
set_option maxHeartbeats 2000000 in
theorem ufOrders_walk (m : Int) (hm : 0 ≤ m) (hm' : m < 256) (l : List (Int × Int)) (P : Option Addr) (pd : Nat) (a b d : Int) (hl : l.length ≤ maxLen) (w : World) (hp : Grid w P 2 (pairsC l)) :
    Gives Try.prog 5 #[.int .u8 m, .slice P l.length pd, .int .i64 a, .int .i64 b, .int .i64 d] w (.bool true) := by
  unfold Gives
  have HP := Lib.hid hp
  clear hp
  have hl' : (l.length : Int) ≤ 9223372036854775807 := by unfold maxLen at hl; omega
  by_cases hbig : 60 < l.length
  · go_enter Try.func5, Try.ntmps5
    go_wp2_with (first | (go_at_call 15; refine (live6_any _).mono ?_; rintro e w' ⟨rfl, x, rfl⟩))
    go_ret
    exact ⟨rfl, by (show Grew _ _; repeat (first | exact Grew.refl _ | refine Grew.alloc ?_ _ | refine Grew.drew ?_ | refine Grew.more ?_ _))⟩
  · obtain ⟨k, hk⟩ : ∃ k : Nat, (k : Int) = m % 40 := ⟨(m % 40).toNat, by omega⟩
    have HK := Lib.hid hk
    clear hk hl
    go_enter Try.func5, Try.ntmps5
    go_wp2_with fail
    refine (play_any m k HK.out l (by omega) hm hm' P pd _ HP.out).mono ?_
    rintro e w1 ⟨g, h, A, c, rfl, s⟩
    have HS := Lib.hid s.cls
    clear s
    go_wp2_with fail
    go_loopw [13, 14] (fun v i wr => BackAt w1 l v i wr) (fun _ i _ => (intOf i + 1).toNat)
    case atStart => exact ⟨l.length, none, 0, Nat.le_refl _, rfl, by rw [Nat.sub_self], by rw [Nat.sub_self]; exact own_none _ _ _ _, Grew.refl _⟩
    case round =>
      obtain ⟨q, A1, c1, hq, rfl, rfl, ho, hg⟩ := hrel
      have HO := Lib.hid ho
      have HG := Lib.hid hg
      clear ho hg
      rcases q with _ | r
      · rw [show ((0 : Nat) : Int) - 1 = -1 from rfl]
        rw [Nat.sub_zero] at HO ⊢
        obtain ⟨A', c', hv, hrow⟩ := own_row HO.out
        injection hv with hv1 _ hv3
        subst hv1 hv3
        have HB := Lib.hid (grid_of_row hrow)
        clear hrow HO
        go_wp2_with fail
        refine (play_len m k HK.out (revL l l.length) l.length (revL_len l _ (Nat.le_refl _)) (by omega) hm hm' A1 c1 _ HB.out).mono ?_
        rintro e w2 ⟨g2, h2, A2, c2, rfl, s⟩
        have hrr : ∀ i, i < k → foldR k (revL l l.length) i = foldR k l i := fun i hi => foldR_rev k l i hi
        have t : Two w g h g2 h2 k (foldR k l) w2 := by
          have h1 := HS.out.lt
          have h2' := HG.out.size
          have h3 := s.cls.gu
          have h4 := s.cls.hu
          refine ⟨HS.out.on (HG.out.trans s.cls.grew), UfS.congr ⟨(HS.out.grew.trans HG.out).trans s.cls.grew, ?_, ?_, s.cls.least, s.cls.lies⟩ hrr, by omega⟩
          · have := HS.out.grew.size; omega
          · have := HS.out.grew.size; omega
        have e1 : sameB k (foldR k l) b a = sameB k (foldR k l) a b := sameB_symm _ _ _ _
        have E1 := Lib.hid e1
        have HT := Lib.hid (fun (h1 : sameB k (foldR k l) a b = true) (h2 : sameB k (foldR k l) b d = true) => sameB_trans _ _ h1 h2)
        have ST := Lib.hid t
        clear t s hrr e1
        generalize foldR k l = R at *
        generalize hx : findI k R a = x at *
        have HX := Lib.hid hx
        clear hx HS HB HG HP
        generalize hab : sameB k R a b = t1 at *
        generalize hbd : sameB k R b d = t2 at *
        generalize had : sameB k R a d = t3 at *
        have HAB := Lib.hid hab
        have HBD := Lib.hid hbd
        have HAD := Lib.hid had
        clear hab hbd had
        have hx0 : ((x : Int) == x) = true := by simp
        rcases (by have ht := HT.out; cases t1 <;> cases t2 <;> cases t3 <;> simp_all : t1 = false ∨ (t1 = true ∧ t2 = false) ∨ (t1 = true ∧ t2 = true ∧ t3 = true)) with rfl | ⟨rfl, rfl⟩ | ⟨rfl, rfl, rfl⟩
        all_goals
          go_wp2_with (first | (go_at_call_of 20 #[Value.pointer (some (Addr.mk g 0 none)), Value.int .i64 a, Value.int .i64 b]; (with_reducible refine (Two.same1 a b _ w _ g h g2 h2 k R ST.out HAB.out).mono ?_); rintro e w3 ⟨rfl, s⟩; have ST := Lib.hid s; clear s) | (go_at_call_of 20 #[Value.pointer (some (Addr.mk g 0 none)), Value.int .i64 b, Value.int .i64 d]; (with_reducible refine (Two.same1 b d _ w _ g h g2 h2 k R ST.out HBD.out).mono ?_); rintro e w3 ⟨rfl, s⟩; have ST := Lib.hid s; clear s) | (go_at_call_of 20 #[Value.pointer (some (Addr.mk g 0 none)), Value.int .i64 a, Value.int .i64 d]; (with_reducible refine (Two.same1 a d _ w _ g h g2 h2 k R ST.out HAD.out).mono ?_); rintro e w3 ⟨rfl, s⟩; have ST := Lib.hid s; clear s) | (go_at_call_of 20 #[Value.pointer (some (Addr.mk g2 0 none)), Value.int .i64 a, Value.int .i64 b]; (with_reducible refine (Two.same2 a b _ w _ g h g2 h2 k R ST.out HAB.out).mono ?_); rintro e w3 ⟨rfl, s⟩; have ST := Lib.hid s; clear s) | (go_at_call_of 20 #[Value.pointer (some (Addr.mk g 0 none)), Value.int .i64 b, Value.int .i64 a]; (with_reducible refine (Two.same1 b a _ w _ g h g2 h2 k R ST.out E1.out).mono ?_); rintro e w3 ⟨rfl, s⟩; have ST := Lib.hid s; clear s) | (go_at_call_of 21 (Value.pointer (some (Addr.mk g 0 none))); (with_reducible refine (Two.find1 a x w _ g h g2 h2 k R ST.out HX.out).mono ?_); rintro e w3 ⟨rfl, s⟩; have ST := Lib.hid s; clear s) | (go_at_call_of 21 (Value.pointer (some (Addr.mk g2 0 none))); (with_reducible refine (Two.find2 a x w _ g h g2 h2 k R ST.out HX.out).mono ?_); rintro e w3 ⟨rfl, s⟩; have ST := Lib.hid s; clear s) | (go_at_call 15; refine (live6_any _).mono ?_; rintro e w4 ⟨rfl, hl4⟩))
          go_ret
          exact ⟨rfl, ST.out.one.grew.trans hl4⟩
      · rw [show ((r + 1 : Nat) : Int) - 1 = (r : Int) by omega]
        have hr : r < l.length := by omega
        obtain ⟨pb, po, rfl⟩ := pairs_some HP.out hr
        obtain ⟨hb, c0, c1'⟩ := pairs_cells HP.out (HS.out.grew.trans HG.out) hr rfl rfl
        have HR := Lib.hid (revL_succ l r hr)
        generalize l[r].1 = x at *
        generalize l[r].2 = y at *
        have e3 : l.length - (r + 1) + 1 = l.length - r := by omega
        have e4 : (pairsC (revL l (l.length - (r + 1)))).flatten ++ [.int .i64 y, .int .i64 x] = (pairsC (revL l (l.length - r))).flatten := by
          rw [HR.out]
          simp [pairsC]
        have HE : Hid (∀ (A2 : Option Addr) (c2 : Nat) (w2 : World), w2.ownsRow w1.heap.size 29 2 (.slice A2 (l.length - (r + 1) + 1) c2) (l.length - (r + 1) + 1) ((pairsC (revL l (l.length - (r + 1)))).flatten ++ [.int .i64 y, .int .i64 x]) → Grew w1 w2 → BackAt w1 l (.slice A2 (l.length - (r + 1) + 1) c2) (.int .i64 ((r : Int) - 1)) w2) := Lib.hid (by
          intro A2 c2 w2 ho2 hg2
          rw [e3, e4] at ho2
          rw [e3]
          exact ⟨r, A2, c2, by omega, rfl, rfl, ho2, hg2⟩)
        have hr3 : (r : Int) < 100 := by omega
        have h1c : ∀ u ∈ [Value.int .i64 y, Value.int .i64 x], u.oneCell' = true := by
          intro u hu
          simp only [List.mem_cons, List.not_mem_nil, or_false] at hu
          rcases hu with rfl | rfl <;> rfl
        have HC := Lib.hid h1c
        clear e3 e4 h1c
        go_wp2
        go_region_law (refine step_apps rfl (.tmp 35) (.tmp 47) 22 29 2 rfl w1 _ 16 Try.underlying22 infoPair rfl (by decide) (by decide) _ (l.length - (r + 1)) _ rfl (own_alloc HO.out.drew _) _ 1 1 [.int .i64 y, .int .i64 x] rfl rfl (row_new _ _ _ #[.int .i64 y, .int .i64 x] rfl) HC.out (by omega) (HG.out.drew.alloc _) ?_; intro A2 c2 w2 ho2 _ hg2 _ _; have HB := Lib.hid (HE.out A2 c2 w2 ho2 hg2); clear ho2 hg2)
        all_goals
          go_wp2
          refine ⟨?_, by simp only [intOf]; omega⟩
          exact HB.out
end Go.Proofs.Ythngafgblehpoaa
