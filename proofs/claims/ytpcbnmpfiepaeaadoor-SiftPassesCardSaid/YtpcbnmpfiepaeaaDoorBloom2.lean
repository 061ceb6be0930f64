/- Layer 18: filters: put, asked, told. Condition: as many words and bits as there may be. -/
import Derived.Test.YtpcbnmpfiepaeaaDoorBloom
import Derived.Test.YtpcbnmpfiepaeaaDoorShelf
import Derived.StillTailTactics
import Derived.Deep.RegionHeld3
import Derived.Outline
namespace Go.Proofs.YtpcbnmpfiepaeaaDoor
open Go.RowKit
attribute [local go_sem] more_cell more_frozen more_more more_setCell more_of_drew more_of_drewN lt_more le_more past_cell past_cell2 past_frozen past_frozen2 past_setCell past_setCell2 mid_cell mid_frozen mid_setCell
attribute [local go_sem ↓] Go.wp_at_zero Go.wp_at_succ

def uV (l : List Nat) : List Value := l.map fun (x : Nat) => Value.int .u64 (x : Int)
theorem uV_one (l : List Nat) : ∀ u ∈ uV l, u.oneCell' = true := by
  intro u hu
  obtain ⟨z, _, rfl⟩ := List.mem_map.1 hu
  rfl
/-- A copy of one's own is left. -/
def Cloned (w : World) (l : List Nat) (e : Ending) (w' : World) : Prop := ∃ g c, e = .returned (.slice (some ⟨g, 0, none⟩) l.length c) ∧ w'.ownsRow w.heap.size 51 1 (.slice (some ⟨g, 0, none⟩) l.length c) l.length (uV l) ∧ Grew w w'
theorem uclone_any (l : List Nat) (b o n c : Nat) (hn : l.length = n) (h0 : 0 < n) (hl : n ≤ 1000000) (w : World) (hr : URow w (some ⟨b, o, none⟩) l) : Calls Tryd.prog 37 #[.slice (some ⟨b, o, none⟩) n c] w (Cloned w l) := by
  subst hn
  obtain ⟨i0, hi, hz0, hz1, hz2⟩ := info_parts infoU
  refine (Tryd.slices_Clone_f37 i0 _ 1 8 hi hz0 hz1 hz2 rfl (by decide) (fun _ => by kernel_rfl) b o l.length c (uV l) w (by simp [uV]) (by unfold maxLen; omega) (by omega) (row_cells hr) (uV_one l)).mono ?_
  · rintro e w' ⟨v', he, ho, _, hb⟩
    obtain ⟨g, cap, hv, _⟩ := World.ownsRow.form ho h0
    subst hv
    exact ⟨g, cap, he, ho, Grew.of_below hb⟩
theorem uclone_nil (n c : Nat) (w : World) : Calls Tryd.prog 37 #[.slice none n c] w fun e w' => e = .returned (.slice none 0 0) ∧ w' = w := by
  exact Tryd.slices_Clone_nil_f37 n c w
theorem URow.grew {w w' : World} {A : Option Addr} {l : List Nat} (h : URow w A l) (g : Grew w w') : URow w' A l := Row.grew h g
theorem urow_own {w : World} {base n : Nat} {g c : Nat} {l : List Nat} (h : w.ownsRow base 51 1 (.slice (some ⟨g, 0, none⟩) n c) n (uV l)) : URow w (some ⟨g, 0, none⟩) l := by
  obtain ⟨A', c', h1, h2⟩ := own_row h
  injection h1 with h1 _ _
  subst h1
  exact h2
theorem urow_cell {w : World} {b o i x : Nat} {l : List Nat} (h : URow w (some ⟨b, o, none⟩) l) (hi : i < l.length) (hx : l[i] = x) : b < w.heap.size ∧ w.cell? ⟨b, o + i, none⟩ = some (.int .u64 (x : Int)) := by
  subst hx
  rcases h with h | ⟨b', o', hA, hb, hc⟩
  · exfalso
    have := congrArg List.length h
    simp at this
    subst this
    simp at hi
  · injection hA with hA
    injection hA with e1 e2 _
    subst e1 e2
    exact ⟨hb, hc i _ (by simp [hi])⟩
/-- The word in which a number's bits are. -/
def buckN (h n : Nat) : Nat := h / 4294967296 % n
theorem bucket_nat (h n b : Nat) (hh : h < 18446744073709551616) (h0 : 0 < n) (hn : n ≤ 1000000) (hb : buckN h n = b) (w : World) : Calls Tryd.prog 38 #[.int .u64 h, .int .i64 n] w fun e w' => e = .returned (.int .i64 b) ∧ w' = w := by
  have e : bucketI (h : Int) (n : Int) = (b : Int) := by
    unfold bucketI
    rw [if_neg (by omega), ← hb]
    unfold buckN
    simp
  rw [← e]
  exact bucket_any h n (by unfold uI; omega) (by omega) w
def addN (ws : List Nat) (k h : Nat) : List Nat := ws.set (buckN h ws.length) (ws.getD (buckN h ws.length) 0 ||| maskN h k)
def addW (ws : List Nat) (k : Nat) (l : List Nat) : List Nat := l.foldl (fun ws h => addN ws k h) ws
theorem addN_len (ws : List Nat) (k h : Nat) : (addN ws k h).length = ws.length := by unfold addN; simp
theorem addW_len (ws : List Nat) (k : Nat) (l : List Nat) : (addW ws k l).length = ws.length := by
  unfold addW
  induction l generalizing ws with
  | nil => rfl
  | cons h l ih => rw [List.foldl_cons, ih, addN_len]
theorem addW_take (ws : List Nat) (k : Nat) (l : List Nat) (j : Nat) (h : j < l.length) : addW ws k (l.take (j + 1)) = addN (addW ws k (l.take j)) k l[j] := by
  rw [List.take_succ_eq_append_getElem h]
  unfold addW
  rw [List.foldl_append]
  rfl
def wordsOk (ws : List Nat) : Prop := ∀ x ∈ ws, x < 18446744073709551616
theorem addN_ok {ws : List Nat} (k h : Nat) (hw : wordsOk ws) : wordsOk (addN ws k h) := by
  intro x hx
  unfold addN at hx
  rcases List.mem_or_eq_of_mem_set hx with h1 | h1
  · exact hw x h1
  · subst h1
    refine Nat.or_lt_two_pow (n := 64) ?_ (maskN_lt h k)
    rw [List.getD_eq_getElem?_getD]
    cases he : ws[buckN h ws.length]? with
    | none => show 0 < _; decide
    | some y => exact hw y (List.mem_of_getElem? he)
theorem addW_ok {ws : List Nat} (k : Nat) (l : List Nat) (hw : wordsOk ws) : wordsOk (addW ws k l) := by
  unfold addW
  induction l generalizing ws with
  | nil => exact hw
  | cons h l ih => rw [List.foldl_cons]; exact ih (addN_ok k h hw)
theorem uV_set (l : List Nat) (i x : Nat) : (uV l).set i (.int .u64 (x : Int)) = uV (l.set i x) := by unfold uV; rw [List.map_set]
def hasN (ws : List Nat) (k h : Nat) : Bool := (ws.getD (buckN h ws.length) 0 &&& maskN h k) == maskN h k
set_option maxHeartbeats 1000000 in
theorem bhas_to (ws : List Nat) (k h n g c : Nat) (hn : ws.length = n) (hh : h < 18446744073709551616) (hk : k ≤ 5) (h0 : 0 < n) (hl : n ≤ 1000000) (hw : wordsOk ws) (t : Bool) (ht : hasN ws k h = t) (w : World) (hr : URow w (some ⟨g, 0, none⟩) ws) :
    Gives Tryd.prog 28 #[.agg #[.slice (some ⟨g, 0, none⟩) n c, .int .i64 k], .int .u64 h] w (.bool t) := by
  unfold Gives
  subst hn
  have hb : buckN h ws.length < ws.length := Nat.mod_lt _ h0
  obtain ⟨b, hbb⟩ : ∃ b, buckN h ws.length = b := ⟨_, rfl⟩
  rw [hbb] at hb
  obtain ⟨x, hx⟩ : ∃ x, ws[b] = x := ⟨_, rfl⟩
  obtain ⟨hg, c0⟩ := urow_cell hr hb hx
  rw [Nat.zero_add] at c0
  have hx64 : x < 18446744073709551616 := by rw [← hx]; exact hw _ (List.getElem_mem hb)
  have hm64 := maskN_lt h k
  have HM : Hid (∀ W, Gives Tryd.prog 39 #[.int .u64 h, .int .i64 k] W (.int .u64 (maskN h k : Nat))) := Lib.hid fun W => Gives.of_same (mask_any h k hh hk W)
  have HB : Hid (∀ W, Gives Tryd.prog 38 #[.int .u64 h, .int .i64 ws.length] W (.int .i64 b)) := Lib.hid fun W => Gives.of_same (bucket_nat h ws.length b hh h0 hl hbb W)
  have hgd : ws.getD b 0 = x := by rw [List.getD_eq_getElem?_getD, List.getElem?_eq_getElem hb, hx]; rfl
  unfold hasN at ht
  rw [hbb, hgd] at ht
  generalize maskN h k = m at *
  have ea : bits .and .u64 (x : Int) (m : Int) = ((x &&& m : Nat) : Int) := u64_and_nat x m hx64 hm64
  have et : (((x &&& m : Nat) : Int) == (m : Int)) = t := by rw [← ht, Bool.eq_iff_iff, beq_iff_eq, beq_iff_eq]; omega
  generalize x &&& m = y at ea et
  have h0' : (0 : Int) < ws.length := by omega
  have hne : ((ws.length : Int) == 0) = false := by rw [beq_eq_false_iff_ne]; omega
  have hbi : (b : Int) < ws.length := by omega
  clear hr hh hx hx64 hm64 hw ht hgd hbb
  go_enter Tryd.func28, Tryd.ntmps28
  go_wp2_with (first | (go_at_call 39; refine (HM.out _).mono ?_; rintro e w' ⟨rfl, x, rfl⟩))
  refine wp_region_more (by kernel_rfl) (by kernel_rfl) ?_
  repeat (go_big_quiet_step ((first | (go_at_call 38; exact (HB.out _).within) | (go_at_call 38; exact (HB.out _).inside))))
  refine wpQuiet_nil ?_
  rintro _ ⟨z, rfl⟩
  go_wp2
  go_ret
  exact ⟨rfl, by (show Grew _ _; repeat (first | exact Grew.refl _ | refine Grew.alloc ?_ _ | refine Grew.drew ?_ | refine Grew.more ?_ _))⟩
theorem bhas_zero (h : Int) (w : World) : Gives Tryd.prog 28 #[.agg #[.slice none 0 0, .int .i64 0], .int .u64 h] w (.bool false) := by
  unfold Gives
  go_enter Tryd.func28, Tryd.ntmps28
  go_wp2
  go_ret
  exact ⟨rfl, by (show Grew _ _; repeat (first | exact Grew.refl _ | refine Grew.alloc ?_ _ | refine Grew.drew ?_ | refine Grew.more ?_ _))⟩
theorem bits_val (v : Value) (A : Option Addr) (n c : Nat) (hv : v = .slice A n c) (k : Int) (w : World) : Gives Tryd.prog 17 #[.agg #[v, .int .i64 k]] w (.int .i64 k) := by
  unfold Gives
  subst hv
  go_enter Tryd.func17, Tryd.ntmps17
  go_wp2
  go_ret
  exact ⟨rfl, by (show Grew _ _; repeat (first | exact Grew.refl _ | refine Grew.alloc ?_ _ | refine Grew.drew ?_ | refine Grew.more ?_ _))⟩
theorem ones_zero (w : World) : Gives Tryd.prog 31 #[.agg #[.slice none 0 0, .int .i64 0]] w (.int .i64 0) := by
  unfold Gives
  go_enter Tryd.func31, Tryd.ntmps31
  go_wp2
  refine wp_loop_rounds 1 ?_
  rw [rounds_succ]
  go_wp2
  go_ret
  exact ⟨rfl, by (show Grew _ _; repeat (first | exact Grew.refl _ | refine Grew.alloc ?_ _ | refine Grew.drew ?_ | refine Grew.more ?_ _))⟩
theorem badd_zero (A : Option Addr) (n c : Nat) (w : World) : Gives Tryd.prog 21 #[.agg #[.slice none 0 0, .int .i64 0], .slice A n c] w (.agg #[.slice none 0 0, .int .i64 0]) := by
  unfold Gives
  go_enter Tryd.func21, Tryd.ntmps21
  go_wp2_with (first | (go_at_call 37; refine (uclone_nil _ _ _).mono ?_; rintro e w' ⟨rfl, rfl⟩))
  exact bodyPost_ret (v := .agg #[.slice none 0 0, .int .i64 0]) (by simp [results, Tryd.results21, go_sem]) rfl ⟨rfl, by (show Grew _ _; repeat (first | exact Grew.refl _ | refine Grew.alloc ?_ _ | refine Grew.drew ?_ | refine Grew.more ?_ _))⟩
end Go.Proofs.YtpcbnmpfiepaeaaDoor
