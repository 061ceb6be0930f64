/- Layer 5: what is right without a row is right; the same tables. Condition: tables that lie in memory that is there. -/
import Derived.Test.YtcokhgomibimcaaTab15
namespace Go.Proofs.Ytcokhgomibimcaa
open Go.RowKit
attribute [local go_sem] more_cell more_frozen more_more more_setCell more_of_drew more_of_drewN lt_more le_more past_cell past_cell2 past_frozen past_frozen2 past_setCell past_setCell2 mid_cell mid_frozen mid_setCell
attribute [local go_sem ↓] Go.wp_at_zero Go.wp_at_succ

theorem firstE_inv {f : Nat → Int} : ∀ {n : Nat}, firstE f n = 0 → ∀ i, i < n → f i = 0
  | 0, _, i, h => by omega
  | n + 1, h, i, hi => by
    rw [firstE] at h
    by_cases h0 : firstE f n = 0
    · rw [if_pos h0] at h
      rcases Nat.lt_or_ge i n with h1 | h1
      · exact firstE_inv h0 i h1
      · have : i = n := by omega
        subst this; exact h
    · rw [if_neg h0] at h
      exact absurd h h0
section
open Classical
theorem tab_inv {a : List Tb} {t : Tb} (h : tabE a t = 0) : nameB t.name = true ∧ (¬ ∃ y ∈ a, y.name = t.name) ∧ ¬ (t.cols.length < 1 ∨ 16 < t.cols.length ∨ 65536 < t.rows.length) ∧ colsE t.cols = 0 ∧ ∀ r ∈ t.rows, fitB (t.cols.map Cl.kind) r := by
  have h1 : nameB t.name = true := by
    cases hn : nameB t.name
    · rw [tab_name hn] at h; exact absurd h (by decide)
    · rfl
  have h2 : ¬ ∃ y ∈ a, y.name = t.name := fun hd => by rw [tab_dup hd] at h; exact absurd h (by decide)
  have h3 : ¬ (t.cols.length < 1 ∨ 16 < t.cols.length ∨ 65536 < t.rows.length) := fun hd => by rw [tab_len h1 h2 hd] at h; exact absurd h (by decide)
  have h4 : colsE t.cols = 0 := Classical.byContradiction fun hd => by rw [tab_cols h1 h2 h3 hd] at h; exact hd h
  refine ⟨h1, h2, h3, h4, fun r hr => Classical.byContradiction fun hd => ?_⟩
  rw [tab_row h1 h2 h3 h4 r hr hd] at h
  exact absurd h (by decide)
theorem check_inv {db : List Tb} (h : checkE db = 0) : db.length ≤ 16 ∧ ∀ i, i < db.length → tabE (db.take i) (db.getD i default) = 0 := by
  unfold checkE at h
  by_cases h16 : 16 < db.length
  · rw [if_pos h16] at h; exact absurd h (by decide)
  · rw [if_neg h16] at h
    exact ⟨by omega, firstE_inv h⟩
theorem check_good {db : List Tb} (h : db.length ≤ 16) (h2 : ∀ i, i < db.length → tabE (db.take i) (db.getD i default) = 0) : checkE db = 0 := by
  unfold checkE
  rw [if_neg (by omega)]
  exact firstE_zero h2
end
theorem withoutT_len (l : List Tb) (z i : Int) : (withoutT l z i).length = l.length := by simp [withoutT]
theorem withoutT_at {l : List Tb} {z i : Int} {j : Nat} (h : j < l.length) : (withoutT l z i)[j]'(by rw [withoutT_len]; exact h) = outW l z i j := by simp [withoutT]
theorem outW_name {l : List Tb} {z i : Int} {j : Nat} (h : j < l.length) : (outW l z i j).name = l[j].name ∧ (outW l z i j).cols = l[j].cols ∧ (∀ r ∈ (outW l z i j).rows, r ∈ l[j].rows) ∧ (outW l z i j).rows.length ≤ l[j].rows.length := by
  by_cases hz : (j : Int) = z
  · rw [outW_in h hz]
    exact ⟨rfl, rfl, fun r hr => withoutI_mem hr, withoutI_len _ _⟩
  · rw [outW_out h hz]
    exact ⟨rfl, rfl, fun r hr => hr, Nat.le_refl _⟩
theorem without_names (l : List Tb) (z i : Int) : (withoutT l z i).map Tb.name = l.map Tb.name := by
  apply List.ext_getElem?
  intro j
  by_cases h : j < l.length
  · rw [List.getElem?_map, List.getElem?_map, List.getElem?_eq_getElem (by rw [withoutT_len]; exact h), List.getElem?_eq_getElem h, withoutT_at h]
    simp [(outW_name (z := z) (i := i) h).1]
  · rw [List.getElem?_eq_none (by simp [withoutT_len]; omega), List.getElem?_eq_none (by simp; omega)]
theorem check_without {l : List Tb} {z i : Int} (h : checkE l = 0) : checkE (withoutT l z i) = 0 := by
  obtain ⟨h1, h2⟩ := check_inv h
  refine check_good (by rw [withoutT_len]; exact h1) fun j hj => ?_
  rw [withoutT_len] at hj
  have h3 := h2 j hj
  rw [getD_of hj] at h3
  rw [getD_of (by rw [withoutT_len]; exact hj), withoutT_at hj]
  obtain ⟨a1, a2, a3, a4, a5⟩ := tab_inv h3
  obtain ⟨o1, o2, o3, o4⟩ := outW_name (z := z) (i := i) hj
  refine tab_good (by rw [o1]; exact a1) ?_ (by rw [o2]; omega) (by rw [o2]; exact a4) (fun r hr => by rw [o2]; exact a5 r (o3 r hr))
  rintro ⟨y, hy, he⟩
  have hn : y.name ∈ ((withoutT l z i).take j).map Tb.name := List.mem_map.2 ⟨y, hy, rfl⟩
  rw [List.map_take, without_names, ← List.map_take] at hn
  obtain ⟨y', hy', he'⟩ := List.mem_map.1 hn
  exact a2 ⟨y', hy', by rw [he', he, o1]⟩
theorem sizeT_append (l m : List Tb) : sizeT (l ++ m) = sizeT l + sizeT m := by simp [sizeT]
theorem sizeT_without {l : List Tb} {i : Int} {q : Nat} (h : q < l.length) : sizeT (withoutT l q i) + (if 0 ≤ i ∧ i < (l[q].rows.length : Int) then 1 else 0) = sizeT l := by
  rw [withoutT_set h, List.set_eq_take_append_cons_drop, if_pos h]
  have e : sizeT l = sizeT (l.take q ++ l[q] :: l.drop (q + 1)) := by
    rw [List.getElem_cons_drop, List.take_append_drop]
  rw [e, sizeT_append, sizeT_append]
  have c : ∀ (x : Tb) (m : List Tb), sizeT (x :: m) = x.rows.length + sizeT m := fun x m => by simp [sizeT]
  rw [c, c]
  have : (cutT l[q] i).rows.length + (if 0 ≤ i ∧ i < (l[q].rows.length : Int) then 1 else 0) = l[q].rows.length := by
    show (withoutI l[q].rows i).length + _ = _
    unfold withoutI
    by_cases hi : 0 ≤ i ∧ i < (l[q].rows.length : Int)
    · rw [if_pos hi, if_pos hi, List.length_eraseIdx, if_pos (by omega)]
      omega
    · rw [if_neg hi, if_neg hi]; omega
  omega
theorem ok_without {l : List Tb} {z i : Int} (h : TbsOk l) : TbsOk (withoutT l z i) := by
  refine ⟨by rw [withoutT_len]; exact h.1, fun t ht => ?_⟩
  obtain ⟨j, hj, rfl⟩ := List.getElem_of_mem ht
  rw [withoutT_len] at hj
  rw [withoutT_at hj]
  obtain ⟨k1, k2, k3⟩ := h.2 _ (List.getElem_mem hj)
  obtain ⟨o1, o2, o3, o4⟩ := outW_name (z := z) (i := i) hj
  exact ⟨by rw [o1]; exact k1, by rw [o2]; exact k2, by have := k3.1; omega, fun r hr => k3.2 r (o3 r hr)⟩
theorem szT_each {l : List Tb} {t : Tb} (h : t ∈ l) : t.cols.length + t.rows.length ≤ szT l := by
  induction l with
  | nil => cases h
  | cons x l ih =>
    have e : szT (x :: l) = x.cols.length + x.rows.length + szT l := by simp [szT]
    rcases List.mem_cons.1 h with rfl | h
    · omega
    · have := ih h; omega
theorem sizeT_szT (l : List Tb) : sizeT l ≤ szT l := by
  induction l with
  | nil => simp [sizeT, szT]
  | cons x l ih =>
    have : sizeT (x :: l) = x.rows.length + sizeT l := by simp [sizeT]
    have : szT (x :: l) = x.cols.length + x.rows.length + szT l := by simp [szT]
    omega
def SameTsAt (w : World) (n : Nat) (i : Value) (wr : World) : Prop := ∃ j : Nat, j ≤ n ∧ i = .int .i64 j ∧ Grew w wr
set_option maxHeartbeats 1000000 in
theorem rsametables_eq (l : List Tb) (m : Nat) (hm : l.length = m) (hm1 : m ≤ 1000000) (hc : ∀ t ∈ l, t.cols.length ≤ 1000000 ∧ RwsOk t.rows) (A B : Option Addr) (k j : Nat) (w : World) (ra : TbsR (PRow w) A l) (rb : TbsR (PRow w) B l) :
    Gives Try.prog 66 #[.slice A m k, .slice B m j] w (.bool true) := by
  have RA := Lib.hid ra
  have RB := Lib.hid rb
  have HM := Lib.hid hm
  have HC := Lib.hid hc
  clear ra rb hm hc
  unfold Gives
  have e0 : ((m : Int) != (m : Int)) = false := by simp
  go_enter Try.func66, Try.ntmps66
  go_wp2
  go_loopw [5] (fun i wr => SameTsAt w m i wr) (fun i _ => m - (intOf i).toNat)
  case atStart => exact ⟨0, Nat.zero_le _, rfl, Grew.refl w⟩
  case round =>
    obtain ⟨q, hq, rfl, hg⟩ := hrel
    have HG := Lib.hid hg
    clear hg
    by_cases h : q < m
    · have h1 : q < l.length := by rw [HM.out]; exact h
      obtain ⟨b, o, C, k2, B2, j2, rfl, _, _, hcl, hrw, ⟨hb, a0, a1, a2⟩⟩ := tbsR_at (RA.out.grew HG.out) h1
      obtain ⟨b', o', C', k2', B2', j2', rfl, _, _, hcl', hrw', ⟨hb', a0', a1', a2'⟩⟩ := tbsR_at (RB.out.grew HG.out) h1
      obtain ⟨ok1, ok2⟩ := HC.out _ (List.getElem_mem h1)
      have HS : Hid (∀ x, Gives Try.prog 63 #[tbV l[q] C k2 B2 j2, tbV l[q] C' k2' B2' j2'] (more wr x) (.bool true)) := Lib.hid fun x =>
        rsametable_eq l[q] C B2 C' B2' k2 j2 k2' j2' ok1 ok2 _ (hcl.grew ((Grew.refl wr).more x)) (hcl'.grew ((Grew.refl wr).more x)) (hrw.grew ((Grew.refl wr).more x)) (hrw'.grew ((Grew.refl wr).more x))
      unfold tbV at HS
      clear hcl hcl' hrw hrw' ok1 ok2
      generalize l[q] = t at *
      go_upto_region 6 with fail
      refine wp_region_more (by kernel_rfl) (by kernel_rfl) ?_
      repeat (go_big_quiet_step (((first | (go_at_call 63; exact (HS.out _).within)))))
      refine wpQuiet_nil ?_
      rintro _ ⟨z, rfl⟩
      go_wp2
      exact ⟨⟨q + 1, by omega, by go_num, HG.out.more z⟩, by simp only [intOf]; omega⟩
    · obtain rfl : q = m := by omega
      go_wp2
      go_ret
      exact ⟨rfl, HG.out⟩
end Go.Proofs.Ytcokhgomibimcaa
