/- The law of the order of counts, of layer 26. Condition: slices of numbers lie in memory that is there. -/
import Derived.Test.YtjfhaeadcflhnaaSat2
namespace Go.Proofs.Ytjfhaeadcflhnaa
open Go.RowKit
attribute [local go_sem] more_cell more_frozen more_more more_setCell more_of_drew more_of_drewN lt_more le_more past_cell past_cell2 past_frozen past_frozen2 past_setCell past_setCell2 mid_cell mid_frozen mid_setCell
attribute [local go_sem ↓] Go.wp_at_zero Go.wp_at_succ

def satI (t : Int) : Int := if 4611686018427387904 < t then 4611686018427387904 else t
def sumC (l : List Int) : Int := l.foldr (fun n s => cutI n + s) 0
def prodC (l : List Int) : Int := l.foldr (fun n s => cutI n * s) 1
theorem sumC_nonneg (l : List Int) : 0 ≤ sumC l := by
  induction l with
  | nil => decide
  | cons x l ih =>
    have := (cutI_s x).1
    show 0 ≤ cutI x + sumC l
    omega
theorem prodC_nonneg (l : List Int) : 0 ≤ prodC l := by
  induction l with
  | nil => decide
  | cons x l ih => exact Int.mul_nonneg (cutI_s x).1 ih
theorem sumC_append (a b : List Int) : sumC (a ++ b) = sumC a + sumC b := by
  induction a with
  | nil => show sumC b = 0 + sumC b; omega
  | cons x a ih => show cutI x + sumC (a ++ b) = cutI x + sumC a + sumC b; rw [ih]; omega
theorem prodC_append (a b : List Int) : prodC (a ++ b) = prodC a * prodC b := by
  induction a with
  | nil => show prodC b = 1 * prodC b; omega
  | cons x a ih => show cutI x * prodC (a ++ b) = cutI x * prodC a * prodC b; rw [ih, Int.mul_assoc]
theorem foldP_sat (l : List Int) : ∀ a, sI a → foldP l a = satI (a + sumC l) := by
  induction l with
  | nil =>
    intro a h
    unfold sI at h
    show a = satI (a + 0)
    unfold satI
    rw [if_neg (by omega)]
    omega
  | cons x l ih =>
    intro a h
    show foldP l (plusI a (cutI x)) = satI (a + (cutI x + sumC l))
    rw [ih _ (plusI_s h (cutI_s x))]
    have h1 := sumC_nonneg l
    have h2 := cutI_s x
    unfold sI at h h2
    unfold satI plusI
    (repeat' split) <;> omega
/-- A product stays what it is when one factor is cut at the top, unless the other is 0: then both are 0. -/
theorem satI_mul (p q : Int) (hp : 0 ≤ p) (hq : 0 ≤ q) : satI (satI p * q) = satI (p * q) := by
  by_cases h : 4611686018427387904 < p
  · have e : satI p = 4611686018427387904 := if_pos h
    rw [e]
    rcases (by omega : q = 0 ∨ 1 ≤ q) with rfl | h1
    · rw [Int.mul_zero, Int.mul_zero]
    · have h2 : 4611686018427387904 * 1 ≤ 4611686018427387904 * q := Int.mul_le_mul_of_nonneg_left h1 (by decide)
      have h3 : p * 1 ≤ p * q := Int.mul_le_mul_of_nonneg_left h1 hp
      generalize p * q = r at *
      unfold satI
      (repeat' split) <;> omega
  · have e : satI p = p := if_neg h
    rw [e]
theorem foldM_sat (l : List Int) : ∀ a, sI a → foldM l a = satI (a * prodC l) := by
  induction l with
  | nil =>
    intro a h
    unfold sI at h
    show a = satI (a * 1)
    unfold satI
    rw [if_neg (by omega)]
    omega
  | cons x l ih =>
    intro a h
    show foldM l (timesI a (cutI x)) = satI (a * (cutI x * prodC l))
    rw [ih _ (timesI_s h (cutI_s x))]
    show satI (satI (a * cutI x) * prodC l) = _
    rw [satI_mul _ _ (Int.mul_nonneg h.1 (cutI_s x).1) (prodC_nonneg l), Int.mul_assoc]
theorem satI_mono {a b : Int} (h : a ≤ b) : satI a ≤ satI b := by unfold satI; (repeat' split) <;> omega
theorem cutI_mono {n m : Int} (h : n ≤ m) : cutI n ≤ cutI m := by unfold cutI; (repeat' split) <;> omega
theorem zero_s : sI 0 := by unfold sI; decide
theorem one_s : sI 1 := by unfold sI; decide
theorem add_order (a b : List Int) {n m : Int} (h : n ≤ m) : foldP ((n :: a) ++ b) 0 ≤ foldP ((m :: b) ++ a) 0 := by
  rw [foldP_sat _ _ zero_s, foldP_sat _ _ zero_s, sumC_append, sumC_append]
  have := cutI_mono h
  refine satI_mono ?_
  show 0 + (cutI n + sumC a + sumC b) ≤ 0 + (cutI m + sumC b + sumC a)
  omega
theorem mul_order (a b : List Int) {n m : Int} (h : n ≤ m) : foldM ((n :: a) ++ b) 1 ≤ foldM ((m :: b) ++ a) 1 := by
  rw [foldM_sat _ _ one_s, foldM_sat _ _ one_s, prodC_append, prodC_append]
  refine satI_mono ?_
  show 1 * (cutI n * prodC a * prodC b) ≤ 1 * (cutI m * prodC b * prodC a)
  rw [Int.one_mul, Int.one_mul, Int.mul_assoc, Int.mul_assoc, Int.mul_comm (prodC b)]
  exact Int.mul_le_mul_of_nonneg_right (cutI_mono h) (Int.mul_nonneg (prodC_nonneg a) (prodC_nonneg b))
theorem add_parts (a b : List Int) : foldP [foldP a 0, foldP b 0] 0 = foldP (b ++ a) 0 := by
  rw [foldP_sat (b ++ a) _ zero_s, sumC_append]
  show plusI (plusI 0 (cutI (foldP a 0))) (cutI (foldP b 0)) = _
  rw [cutI_self (foldP_s a 0 zero_s), cutI_self (foldP_s b 0 zero_s), foldP_sat a _ zero_s, foldP_sat b _ zero_s]
  have h1 := sumC_nonneg a
  have h2 := sumC_nonneg b
  unfold plusI satI
  (repeat' split) <;> omega
theorem mul_parts (a b : List Int) : foldM [foldM a 1, foldM b 1] 1 = foldM (b ++ a) 1 := by
  rw [foldM_sat (b ++ a) _ one_s, prodC_append]
  show timesI (timesI 1 (cutI (foldM a 1))) (cutI (foldM b 1)) = _
  rw [cutI_self (foldM_s a 1 one_s), cutI_self (foldM_s b 1 one_s), foldM_sat a _ one_s, foldM_sat b _ one_s, Int.one_mul, Int.one_mul, Int.one_mul]
  have h1 := prodC_nonneg a
  have h2 := prodC_nonneg b
  have e : timesI 1 (satI (prodC a)) = satI (prodC a) := by
    unfold timesI
    rw [Int.one_mul, if_neg]
    unfold satI
    split <;> omega
  rw [e]
  have h3 : 0 ≤ satI (prodC a) := by unfold satI; split <;> omega
  show satI (satI (prodC a) * satI (prodC b)) = satI (prodC b * prodC a)
  rw [Int.mul_comm (satI (prodC a)), satI_mul _ _ h2 h3, Int.mul_comm (prodC b) (satI _), satI_mul _ _ h1 h2, Int.mul_comm]
theorem add_len (l : List Int) (A : Option Addr) (n c : Nat) (hn : l.length = n) (hl : n ≤ 1000000) (w : World) (hr : Row w A (l.map (Value.int .i64))) :
    Calls Try.prog 20 #[.slice A n c] w fun e w' => e = .returned (.int .i64 (foldP l 0)) ∧ w' = w := by
  subst hn
  exact add_any l A c hl w hr
theorem mul_len (l : List Int) (A : Option Addr) (n c : Nat) (hn : l.length = n) (hl : n ≤ 1000000) (w : World) (hr : Row w A (l.map (Value.int .i64))) :
    Calls Try.prog 22 #[.slice A n c] w fun e w' => e = .returned (.int .i64 (foldM l 1)) ∧ w' = w := by
  subst hn
  exact mul_any l A c hl w hr
theorem infoInt3 : (Try.prog.info? 3).map (fun i => (i.zero, i.size, i.bytes)) = some (some (.int .i64 0), 1, 8) := by kernel_rfl
set_option maxHeartbeats 1000000 in
theorem satOrders_walk (a b : List Int) (A B : Option Addr) (c d : Nat) (n m : Int) (ha : a.length ≤ maxLen) (hb : b.length ≤ maxLen) (w : World) (hra : Row w A (a.map (Value.int .i64))) (hrb : Row w B (b.map (Value.int .i64))) :
    Gives Try.prog 7 #[.slice A a.length c, .slice B b.length d, .int .i64 n, .int .i64 m] w (.bool true) := by
  unfold Gives
  have HA := Lib.hid hra
  have HB := Lib.hid hrb
  clear hra hrb
  have ha' : (a.length : Int) ≤ 9223372036854775807 := by unfold maxLen at ha; omega
  have hb' : (b.length : Int) ≤ 9223372036854775807 := by unfold maxLen at hb; omega
  by_cases h : a.length ≤ 100 ∧ b.length ≤ 100 ∧ n ≤ m
  · obtain ⟨h1, h2, h3⟩ := h
    obtain ⟨j0, hi0, hz0, hz1, hz2⟩ := info_parts infoInt3
    have HJ := Lib.hid hi0
    have HJ0 := Lib.hid hz0
    have HJ1 := Lib.hid hz1
    have HJ2 := Lib.hid hz2
    clear hi0 hz0 hz1 hz2
    go_enter Try.func7, Try.ntmps7
    go_wp2_with (first | (at_builtin; refine wpList_append_row _ rfl (.tmp 27) (.tmp 28) 34 rfl w.heap.size 3 j0 (.int .i64 0) 1 8 Try.underlying34 HJ.out HJ0.out HJ1.out HJ2.out rfl (by decide) _ _ _ rfl (own_one _ _ _ _ _ rfl (Nat.le_refl _)) A a.length c _ rfl ?p1 (row_alloc HA.out _) ?p3 ?p4 ?p5 ?p6 ?_))
    case p1 => simp
    case p3 =>
      intro u hu
      obtain ⟨z, _, rfl⟩ := List.mem_map.1 hu
      rfl
    case p4 => unfold maxLen; omega
    case p5 => omega
    case p6 => first | omega | (rw [World.size_alloc]; omega) | (rw [World.size_alloc, more_size]; omega) | (rw [more_size]; omega)
    intro A1 c1 w1 hown1 hrow1 hgb1 _
    have hg1 : Grew w w1 := Grew.grown ((Grew.refl w).alloc _) hgb1 (fun j hj => by simp only [Value.ownBlock, Option.some.injEq] at hj; omega)
    obtain ⟨x1, rfl⟩ := hg1
    have HO1 := Lib.hid hown1
    clear hown1 hrow1 hgb1
    go_wp2_with (first | (at_builtin; refine wpList_append_row _ rfl (.tmp 29) (.tmp 30) 34 rfl w.heap.size 3 j0 (.int .i64 0) 1 8 Try.underlying34 HJ.out HJ0.out HJ1.out HJ2.out rfl (by decide) _ _ _ rfl (HO1.out) B b.length d _ rfl ?q1 (HB.out.more _) ?q3 ?q4 ?q5 ?q6 ?_))
    case q1 => simp
    case q3 =>
      intro u hu
      obtain ⟨z, _, rfl⟩ := List.mem_map.1 hu
      rfl
    case q4 => unfold maxLen; omega
    case q5 => omega
    case q6 => first | omega | (rw [World.size_alloc]; omega) | (rw [World.size_alloc, more_size]; omega) | (rw [more_size]; omega)
    intro A2 c2 w2 hown2 hrow2 hgb2 _
    have hg2 : Grew w w2 := Grew.grown ((Grew.refl w).more _) hgb2 (own_base HO1.out)
    obtain ⟨x2, rfl⟩ := hg2
    have HX : Row (more w x2) A2 ((n :: (a ++ b)).map (Value.int .i64)) := by simpa using hrow2
    have HX := Lib.hid HX
    clear hown2 hrow2 hgb2 HO1
    generalize hV : more w x2 = V at HX
    have HA2 := Lib.hid (hV ▸ HA.out.more x2 : Row V A (a.map (Value.int .i64)))
    have HB2 := Lib.hid (hV ▸ HB.out.more x2 : Row V B (b.map (Value.int .i64)))
    have HV : Grew w V := ⟨x2, hV.symm⟩
    have HV := Lib.hid HV
    clear hV HA HB
    go_wp2_with (first | (at_builtin; refine wpList_append_row _ rfl (.tmp 33) (.tmp 34) 34 rfl V.heap.size 3 j0 (.int .i64 0) 1 8 Try.underlying34 HJ.out HJ0.out HJ1.out HJ2.out rfl (by decide) _ _ _ rfl (own_one _ _ _ _ _ rfl (Nat.le_refl _)) B b.length d _ rfl ?r1 (row_alloc HB2.out _) ?r3 ?r4 ?r5 ?r6 ?_))
    case r1 => simp
    case r3 =>
      intro u hu
      obtain ⟨z, _, rfl⟩ := List.mem_map.1 hu
      rfl
    case r4 => unfold maxLen; omega
    case r5 => omega
    case r6 => first | omega | (rw [World.size_alloc]; omega) | (rw [World.size_alloc, more_size]; omega) | (rw [more_size]; omega)
    intro A3 c3 w3 hown3 hrow3 hgb3 _
    have hg3 : Grew V w3 := Grew.grown ((Grew.refl V).alloc _) hgb3 (fun j hj => by simp only [Value.ownBlock, Option.some.injEq] at hj; omega)
    obtain ⟨x3, rfl⟩ := hg3
    have HO3 := Lib.hid hown3
    clear hown3 hrow3 hgb3
    go_wp2_with (first | (at_builtin; refine wpList_append_row _ rfl (.tmp 35) (.tmp 36) 34 rfl V.heap.size 3 j0 (.int .i64 0) 1 8 Try.underlying34 HJ.out HJ0.out HJ1.out HJ2.out rfl (by decide) _ _ _ rfl (HO3.out) A a.length c _ rfl ?s1 (HA2.out.more _) ?s3 ?s4 ?s5 ?s6 ?_))
    case s1 => simp
    case s3 =>
      intro u hu
      obtain ⟨z, _, rfl⟩ := List.mem_map.1 hu
      rfl
    case s4 => unfold maxLen; omega
    case s5 => omega
    case s6 => first | omega | (rw [World.size_alloc]; omega) | (rw [World.size_alloc, more_size]; omega) | (rw [more_size]; omega)
    intro A4 c4 w4 hown4 hrow4 hgb4 _
    have hg4 : Grew V w4 := Grew.grown ((Grew.refl V).more _) hgb4 (own_base HO3.out)
    obtain ⟨x4, rfl⟩ := hg4
    have HY : Row (more V x4) A4 ((m :: (b ++ a)).map (Value.int .i64)) := by simpa using hrow4
    have HY := Lib.hid HY
    clear hown4 hrow4 hgb4 HO3
    have lx : (n :: (a ++ b)).length = 1 + a.length + b.length := by simp; omega
    have ly : (m :: (b ++ a)).length = 1 + b.length + a.length := by simp; omega
    have o1 : foldP (n :: (a ++ b)) 0 ≤ foldP (m :: (b ++ a)) 0 := add_order a b h3
    have o2 : foldM (n :: (a ++ b)) 1 ≤ foldM (m :: (b ++ a)) 1 := mul_order a b h3
    generalize hU : more V x4 = U at HY
    have HXU := Lib.hid (hU ▸ HX.out.more x4 : Row U A2 ((n :: (a ++ b)).map (Value.int .i64)))
    have HYU := HY
    have HAU := Lib.hid (hU ▸ HA2.out.more x4 : Row U A (a.map (Value.int .i64)))
    have HBU := Lib.hid (hU ▸ HB2.out.more x4 : Row U B (b.map (Value.int .i64)))
    have HU := Lib.hid (hU ▸ HV.out.more x4 : Grew w U)
    clear hU HX HY HA2 HB2 HV
    go_wp2_with (first | (go_at_call 20; refine (add_len (n :: (a ++ b)) A2 _ c2 lx (by omega) _ HXU.out).mono ?_; rintro e w' ⟨rfl, hw⟩; have hw := hw.symm; subst hw) | (go_at_call 20; refine (add_len (m :: (b ++ a)) A4 _ c4 ly (by omega) _ HYU.out).mono ?_; rintro e w' ⟨rfl, hw⟩; have hw := hw.symm; subst hw) | (go_at_call 22; refine (mul_len (n :: (a ++ b)) A2 _ c2 lx (by omega) _ HXU.out).mono ?_; rintro e w' ⟨rfl, hw⟩; have hw := hw.symm; subst hw) | (go_at_call 22; refine (mul_len (m :: (b ++ a)) A4 _ c4 ly (by omega) _ HYU.out).mono ?_; rintro e w' ⟨rfl, hw⟩; have hw := hw.symm; subst hw) | (at_builtin; refine wpList_append_row _ rfl (.tmp 50) (.tmp 51) 34 rfl U.heap.size 3 j0 (.int .i64 0) 1 8 Try.underlying34 HJ.out HJ0.out HJ1.out HJ2.out rfl (by decide) _ 0 [] rfl (own_empty _ _ _ _ _ rfl (Nat.le_refl _)) B b.length d _ rfl ?t1 (row_alloc HBU.out _) ?t3 ?t4 ?t5 ?t6 ?_))
    case t1 => simp
    case t3 =>
      intro u hu
      obtain ⟨z, _, rfl⟩ := List.mem_map.1 hu
      rfl
    case t4 => unfold maxLen; omega
    case t5 => omega
    case t6 => first | omega | (rw [World.size_alloc]; omega) | (rw [World.size_alloc, more_size]; omega) | (rw [more_size]; omega)
    intro A5 c5 w5 hown5 hrow5 hgb5 _
    have hg5 : Grew U w5 := Grew.grown ((Grew.refl U).alloc _) hgb5 (fun j hj => by simp only [Value.ownBlock, Option.some.injEq] at hj; omega)
    obtain ⟨x5, rfl⟩ := hg5
    have HO5 := Lib.hid hown5
    clear hown5 hrow5 hgb5
    go_wp2_with (first | (at_builtin; refine wpList_append_row _ rfl (.tmp 52) (.tmp 53) 34 rfl U.heap.size 3 j0 (.int .i64 0) 1 8 Try.underlying34 HJ.out HJ0.out HJ1.out HJ2.out rfl (by decide) _ _ _ rfl (HO5.out) A a.length c _ rfl ?v1 (HAU.out.more _) ?v3 ?v4 ?v5 ?v6 ?_))
    case v1 => simp
    case v3 =>
      intro u hu
      obtain ⟨z, _, rfl⟩ := List.mem_map.1 hu
      rfl
    case v4 => unfold maxLen; omega
    case v5 => omega
    case v6 => first | omega | (rw [World.size_alloc]; omega) | (rw [World.size_alloc, more_size]; omega) | (rw [more_size]; omega)
    intro A6 c6 w6 hown6 hrow6 hgb6 _
    have hg6 : Grew U w6 := Grew.grown ((Grew.refl U).more _) hgb6 (own_base HO5.out)
    obtain ⟨x6, rfl⟩ := hg6
    have HZ : Row (more U x6) A6 ((b ++ a).map (Value.int .i64)) := by simpa using hrow6
    have lz : (b ++ a).length = b.length + a.length := by simp
    have HZ := Lib.hid HZ
    clear hown6 hrow6 hgb6 HO5 HXU HYU o1 o2 lx ly
    have p1 := add_parts a b
    have p2 := mul_parts a b
    go_wp2_with (first | (go_at_call_of 20 (Value.slice A a.length c); refine (add_len a A _ c rfl (by omega) _ (by repeat (first | exact HAU.out.more _ | refine row_alloc ?_ _))).mono ?_; rintro e w' ⟨rfl, rfl⟩) | (go_at_call_of 20 (Value.slice B b.length d); refine (add_len b B _ d rfl (by omega) _ (by repeat (first | exact HBU.out.more _ | refine row_alloc ?_ _))).mono ?_; rintro e w' ⟨rfl, rfl⟩) | (go_at_call_of 22 (Value.slice A a.length c); refine (mul_len a A _ c rfl (by omega) _ (by repeat (first | exact HAU.out.more _ | refine row_alloc ?_ _))).mono ?_; rintro e w' ⟨rfl, rfl⟩) | (go_at_call_of 22 (Value.slice B b.length d); refine (mul_len b B _ d rfl (by omega) _ (by repeat (first | exact HBU.out.more _ | refine row_alloc ?_ _))).mono ?_; rintro e w' ⟨rfl, rfl⟩) | (go_at_call_of 20 (Value.slice A6 (b.length + a.length) c6); refine (add_len (b ++ a) A6 _ c6 lz (by omega) _ (by repeat (first | exact HZ.out | refine row_alloc ?_ _))).mono ?_; rintro e w' ⟨rfl, rfl⟩) | (go_at_call_of 22 (Value.slice A6 (b.length + a.length) c6); refine (mul_len (b ++ a) A6 _ c6 lz (by omega) _ (by repeat (first | exact HZ.out | refine row_alloc ?_ _))).mono ?_; rintro e w' ⟨rfl, rfl⟩) | (go_at_call 20; refine (add_len [foldP a 0, foldP b 0] _ 2 _ rfl (by omega) _ (row_of _ _ _ (by first | rfl | rw [World.size_alloc]) _ rfl)).mono ?_; rintro e w' ⟨rfl, rfl⟩) | (go_at_call 22; refine (mul_len [foldM a 1, foldM b 1] _ 2 _ rfl (by omega) _ (row_of _ _ _ (by first | rfl | rw [World.size_alloc]) _ rfl)).mono ?_; rintro e w' ⟨rfl, rfl⟩) | (go_at_call 19; refine (live26_any _).mono ?_; rintro e w' ⟨rfl, x, rfl⟩))
    go_ret
    obtain ⟨x7, rfl⟩ := HU.out
    exact ⟨rfl, by (show Grew _ _; repeat (first | exact Grew.refl _ | refine Grew.alloc ?_ _ | refine Grew.drew ?_ | refine Grew.more ?_ _))⟩
  · rcases (by omega : 100 < a.length ∨ (a.length ≤ 100 ∧ 100 < b.length) ∨ (a.length ≤ 100 ∧ b.length ≤ 100 ∧ m < n)) with h1 | ⟨h1, h2⟩ | ⟨h1, h2, h3⟩
    all_goals
      go_enter Try.func7, Try.ntmps7
      go_wp2_with (first | (go_at_call 19; refine (live26_any _).mono ?_; rintro e w' ⟨rfl, x, rfl⟩))
      go_ret
      exact ⟨rfl, by (show Grew _ _; repeat (first | exact Grew.refl _ | refine Grew.alloc ?_ _ | refine Grew.drew ?_ | refine Grew.more ?_ _))⟩
end Go.Proofs.Ytjfhaeadcflhnaa
