/- The law of truths in any order, of layer 2. Condition: a slice of numbers lies in memory that is there. -/
import Derived.Test.YthmaablodgcgkaaLawLogic
import Derived.Test.YthmaablodgcgkaaKit3
namespace Go.Proofs.Ythmaablodgcgkaa
open Go.RowKit
attribute [local go_sem] more_cell more_frozen more_more more_setCell more_of_drew more_of_drewN lt_more le_more past_cell past_cell2 past_frozen past_frozen2 past_setCell past_setCell2 mid_cell mid_frozen mid_setCell
attribute [local go_sem ↓] Go.wp_at_zero Go.wp_at_succ

theorem andT_comm (a b c : Int) : andT (andT a b) c = andT (andT a c) b := by
  unfold andT
  by_cases a0 : a = 0 <;> by_cases b0 : b = 0 <;> by_cases c0 : c = 0 <;> by_cases a1 : a = 1 <;> by_cases b1 : b = 1 <;> by_cases c1 : c = 1 <;> simp_all
theorem orT_comm (a b c : Int) : orT (orT a b) c = orT (orT a c) b := by
  unfold orT
  by_cases a0 : a = 0 <;> by_cases b0 : b = 0 <;> by_cases c0 : c = 0 <;> by_cases a1 : a = 1 <;> by_cases b1 : b = 1 <;> by_cases c1 : c = 1 <;> simp_all
theorem fold_swap (f : Int → Int → Int) (hf : ∀ a b c, f (f a b) c = f (f a c) b) (l : List Int) : ∀ a x, l.foldl f (f a x) = f (l.foldl f a) x := by
  induction l with
  | nil => intro a x; rfl
  | cons y l ih =>
    intro a x
    rw [List.foldl_cons, List.foldl_cons, hf, ih]
theorem fold_reverse (f : Int → Int → Int) (hf : ∀ a b c, f (f a b) c = f (f a c) b) (l : List Int) : ∀ a, l.reverse.foldl f a = l.foldl f a := by
  induction l with
  | nil => intro a; rfl
  | cons y l ih =>
    intro a
    rw [List.reverse_cons, List.foldl_append, ih, List.foldl_cons, List.foldl_nil, List.foldl_cons, fold_swap f hf]
theorem andL_reverse (l : List Int) : andL l.reverse = andL l := fold_reverse _ andT_comm l 1
theorem orL_reverse (l : List Int) : orL l.reverse = orL l := fold_reverse _ orT_comm l 0
theorem not_andT (a b : Int) : notT (andT a b) = orT (notT a) (notT b) := by
  unfold notT andT orT
  by_cases a0 : a = 0 <;> by_cases b0 : b = 0 <;> by_cases a1 : a = 1 <;> by_cases b1 : b = 1 <;> simp_all
theorem not_andL (l : List Int) : notT (andL l) = orL (l.map notT) := by
  have h : ∀ (l : List Int) (a : Int), notT (l.foldl andT a) = (l.map notT).foldl orT (notT a) := by
    intro l
    induction l with
    | nil => intro a; rfl
    | cons x l ih =>
      intro a
      rw [List.foldl_cons, ih, List.map_cons, List.foldl_cons, not_andT]
  exact h l 1
theorem and_any_len (l : List Int) (A : Option Addr) (n c : Nat) (hn : l.length = n) (hl : n ≤ 1000000) (w : World) (hr : Row w A (l.map (Value.int .i64))) :
    Calls Try.prog 30 #[.slice A n c] w fun e w' => e = .returned (.int .i64 (andL l)) ∧ w' = w := by
  subst hn
  exact and_any l A c hl w hr
theorem or_any_len (l : List Int) (A : Option Addr) (n c : Nat) (hn : l.length = n) (hl : n ≤ 1000000) (w : World) (hr : Row w A (l.map (Value.int .i64))) :
    Calls Try.prog 32 #[.slice A n c] w fun e w' => e = .returned (.int .i64 (orL l)) ∧ w' = w := by
  subst hn
  exact or2_any l A c hl w hr
def LawsAt (l : List Int) (w : World) (T : TypeId) (nots back i : Value) (wr : World) : Prop :=
  ∃ (k : Nat) (A1 A2 : Option Addr) (c1 c2 : Nat), k ≤ l.length ∧ i = .int .i64 k ∧ nots = .slice A1 k c1 ∧ back = .slice A2 k c2 ∧
    wr.ownsRow w.heap.size T 1 (.slice A1 k c1) k (((l.take k).map notT).map (Value.int .i64)) ∧ Row wr A2 ((l.take k).reverse.map (Value.int .i64)) ∧
    (∀ a, A2 = some a → (Value.slice A1 k c1).ownBlock ≠ some a.block ∧ a.block < wr.heap.size) ∧ Grew w wr
theorem infoInt2 : (Try.prog.info? 3).map (fun i => (i.zero, i.size, i.bytes)) = some (some (.int .i64 0), 1, 8) := by kernel_rfl
set_option maxHeartbeats 1000000 in
theorem logicLaws_walk (l : List Int) (A : Option Addr) (c : Nat) (a b : Bool) (w : World) (hl : l.length ≤ maxLen) (hr : Row w A (l.map (Value.int .i64))) :
    Gives Try.prog 8 #[.slice A l.length c, .bool a, .bool b] w (.bool true) := by
  unfold Gives
  have HR := Lib.hid hr
  clear hr
  have hl' : (l.length : Int) ≤ 9223372036854775807 := by unfold maxLen at hl; omega
  by_cases h1 : 50 < l.length
  · go_enter Try.func8, Try.ntmps8
    go_wp2_with (first | (go_at_call 29; refine (live2_any _).mono ?_; rintro e w' ⟨rfl, x, rfl⟩))
    go_ret
    exact ⟨rfl, _, rfl⟩
  · have h2 : l.length ≤ 50 := by omega
    obtain ⟨j0, hi0, hz0, hz1, hz2⟩ := info_parts infoInt2
    have HJ := Lib.hid hi0
    have HJ0 := Lib.hid hz0
    have HJ1 := Lib.hid hz1
    have HJ2 := Lib.hid hz2
    clear hi0 hz0 hz1 hz2
    go_enter Try.func8, Try.ntmps8
    go_wp2
    go_loopw [7, 8, 9] (fun nots back i wr => LawsAt l w 3 nots back i wr) (fun _ _ i _ => l.length - (intOf i).toNat)
    case atStart => exact ⟨0, none, none, 0, 0, Nat.zero_le _, rfl, rfl, rfl, own_none _ _ _ _, Or.inl (by simp), fun a ha => by simp at ha, Grew.refl w⟩
    case round =>
      obtain ⟨k, A1, A2, c1, c2, hk, rfl, rfl, rfl, hown, hrow, hne, x, rfl⟩ := hrel
      have HO := Lib.hid hown
      have HW := Lib.hid hrow
      have HN := Lib.hid hne
      clear hown hrow hne
      by_cases h : k < l.length
      · obtain ⟨bb, oo, rfl, hb, hc⟩ := HR.out.at_ (k := k) (by simpa using h)
        simp only [List.getElem_map] at hc
        have HT := Lib.hid (take_one l k h)
        generalize l[k] = y at hc HT
        go_wp2_with (first | (go_at_call 34; refine (not_any _ _).mono ?_; rintro e w' ⟨rfl, rfl⟩) | (at_builtin; refine wpList_append_row _ rfl (.tmp 21) (.tmp 27) 36 rfl w.heap.size 3 j0 (.int .i64 0) 1 8 Try.underlying36 HJ.out HJ0.out HJ1.out HJ2.out rfl (by decide) _ _ _ rfl (own_alloc HO.out _) _ 1 1 [.int .i64 (notT y)] rfl rfl (row_one _ _ _ _ rfl) ?c3 ?c4 ?c5 ?c6 ?_))
        case c3 => simp [Value.oneCell']
        case c4 => unfold maxLen; omega
        case c5 => omega
        case c6 => rw [World.size_alloc, more_size]; omega
        intro A3 c3 w1 hown1 hrow1 hgb1 hob1
        have hback := row_grown (row_alloc HW.out _) hgb1 (fun a ha => (HN.out a ha).1.symm)
        have hg1 : Grew w w1 := Grew.grown (((Grew.refl w).more _).alloc _) hgb1 (own_base HO.out)
        obtain ⟨x1, rfl⟩ := hg1
        have HO1 := Lib.hid hown1
        have HB1 := Lib.hid hback
        clear hown1 hrow1 hgb1 hob1 hback
        go_wp2_with (at_builtin; refine wpList_append_row _ rfl (.tmp 33) (.tmp 34) 36 rfl (more w x1).heap.size 3 j0 (.int .i64 0) 1 8 Try.underlying36 HJ.out HJ0.out HJ1.out HJ2.out rfl (by decide) _ 1 [.int .i64 y] rfl (own_one _ _ _ _ _ rfl (Nat.le_refl _)) A2 k c2 _ rfl ?d1 (row_alloc HB1.out _) ?d3 ?d4 ?d5 ?d6 ?_)
        case d1 => simp; omega
        case d3 =>
          intro u hu
          obtain ⟨z, _, rfl⟩ := List.mem_map.1 hu
          rfl
        case d4 => unfold maxLen; omega
        case d5 => omega
        case d6 => rw [World.size_alloc]; omega
        intro A4 c4 w2 hown2 hrow2 hgb2 hob2
        have hnots := own_grown (own_alloc HO1.out _) hgb2 (fun j hj => by have := own_lt HO1.out j hj; simp only [Value.ownBlock, ne_eq, Option.some.injEq]; omega)
        have hg2 : Grew w w2 := Grew.grown (((Grew.refl w).more _).alloc _) hgb2 (fun j hj => by simp only [Value.ownBlock, Option.some.injEq] at hj; rw [← hj, more_size]; omega)
        have hapart : ∀ a, A4 = some a → (Value.slice A3 (k + 1) c3).ownBlock ≠ some a.block ∧ a.block < w2.heap.size := by
          rintro a rfl
          refine ⟨fun he => ?_, own_lt hown2 _ rfl⟩
          have h1 := own_lt HO1.out _ he
          simp only [Value.ownBlock, Option.some.injEq] at hob2
          omega
        rw [Nat.add_comm 1 k] at hown2
        have HH1 := Lib.hid hnots
        have HH2 := Lib.hid hrow2
        have HH3 := Lib.hid hapart
        have HH4 := Lib.hid hg2
        clear hown2 hrow2 hgb2 hob2 hnots hg2 hapart
        go_wp2_with fail
        case roundEnd =>
          refine ⟨⟨k + 1, A3, A4, c3, c4, by omega, by simp, rfl, by rw [Nat.add_comm 1 k], ?_, ?_, HH3.out, HH4.out⟩, by simp only [intOf]; omega⟩
          · rw [HT.out]
            simpa using HH1.out
          · rw [HT.out]
            simpa using HH2.out
      · obtain rfl : k = l.length := by omega
        rw [List.take_length] at HO HW
        obtain ⟨B1, d1, e1, hrow1⟩ := own_row HO.out
        injection e1 with e1 _ e2
        subst e1
        have HN1 := Lib.hid hrow1
        clear hrow1 e2
        have f1 : ofT true = 1 := rfl
        have f2 : ofT false = 0 := rfl
        have f3 : notT 1 = 0 := rfl
        have f4 : notT 0 = 1 := rfl
        have f5 : andL [1, 1] = 1 := rfl
        have f6 : andL [0, 1] = 0 := rfl
        have f7 : andL [1, 0] = 0 := rfl
        have f8 : andL [0, 0] = 0 := rfl
        have g5 : orL [1, 1] = 1 := rfl
        have g6 : orL [0, 1] = 1 := rfl
        have g7 : orL [1, 0] = 1 := rfl
        have g8 : orL [0, 0] = 0 := rfl
        have b1 := not_andL l
        have b2 := andL_reverse l
        have b3 := orL_reverse l
        cases a
        all_goals
          cases b
          all_goals
            go_wp2_with (first | (go_at_call 29; refine (live2_any _).mono ?_; rintro e w' ⟨rfl, x, rfl⟩) | (go_at_call 36; refine (of_any _ _).mono ?_; rintro e w' ⟨rfl, rfl⟩) | (go_at_call 37; refine (is_any _ _).mono ?_; rintro e w' ⟨rfl, rfl⟩) | (go_at_call 34; refine (not_any _ _).mono ?_; rintro e w' ⟨rfl, rfl⟩) | (go_at_call_of 30 (Value.slice A l.length c); refine (and_any l A c (by omega) _ (by repeat (first | exact HR.out.more _ | refine row_alloc ?_ _))).mono ?_; rintro e w' ⟨rfl, rfl⟩) | (go_at_call_of 32 (Value.slice A l.length c); refine (or2_any l A c (by omega) _ (by repeat (first | exact HR.out.more _ | refine row_alloc ?_ _))).mono ?_; rintro e w' ⟨rfl, rfl⟩) | (go_at_call_of 30 (Value.slice A2 l.length c2); refine (and_any_len l.reverse A2 l.length c2 (by simp) (by omega) _ (by repeat (first | exact HW.out | refine row_alloc ?_ _))).mono ?_; rintro e w' ⟨rfl, rfl⟩) | (go_at_call_of 32 (Value.slice A2 l.length c2); refine (or_any_len l.reverse A2 l.length c2 (by simp) (by omega) _ (by repeat (first | exact HW.out | refine row_alloc ?_ _))).mono ?_; rintro e w' ⟨rfl, rfl⟩) | (go_at_call_of 32 (Value.slice A1 l.length c1); refine (or_any_len (l.map notT) A1 l.length c1 (by simp) (by omega) _ (by repeat (first | exact HN1.out | refine row_alloc ?_ _))).mono ?_; rintro e w' ⟨rfl, rfl⟩) | (go_at_call 30; refine (and_pair _ _ _ _ (by first | rfl | rw [World.size_alloc])).mono ?_; rintro e w' ⟨rfl, rfl⟩) | (go_at_call 32; refine (or_pair _ _ _ _ (by rw [World.size_alloc])).mono ?_; rintro e w' ⟨rfl, rfl⟩))
            go_ret
            exact ⟨rfl, ((((Grew.refl w).more _).alloc _).alloc _).more _⟩
end Go.Proofs.Ythmaablodgcgkaa
