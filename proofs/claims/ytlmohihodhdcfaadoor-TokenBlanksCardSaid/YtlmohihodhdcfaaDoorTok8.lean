/- Layer 7: signs, quoted texts and texts between quotes, by the document. Condition: a text of no more than a million bytes. -/
import Derived.Test.YtlmohihodhdcfaaDoorTok7
import Derived.Deep.DrawnRows
namespace Go.Proofs.YtlmohihodhdcfaaDoor
open Go.RowKit
attribute [local go_sem] more_cell more_frozen more_more more_setCell more_of_drew more_of_drewN lt_more le_more past_cell past_cell2 past_frozen past_frozen2 past_setCell past_setCell2 mid_cell mid_frozen mid_setCell
attribute [local go_sem ↓] Go.wp_at_zero Go.wp_at_succ

def pairsL : List (List UInt8) := [[60, 62], [60, 61], [62, 61]]
def onesL : List UInt8 := [40, 41, 44, 46, 42, 43, 45, 61, 60, 62]
def signsL : List (List UInt8) := [[60, 62], [60, 61], [62, 61], [40], [41], [44], [46], [42], [43], [45], [61], [60], [62]]
theorem signsL_eq : signsL = pairsL ++ onesL.map fun c => [c] := rfl
theorem find_ones (x : UInt8) (r : List UInt8) : ∀ cs : List UInt8, ((cs.map fun c => [c]).find? fun y => y.isPrefixOf (x :: r)) = if cs.contains x then some [x] else none
  | [] => rfl
  | c :: cs => by
    rw [List.map_cons, List.find?_cons, find_ones x r cs]
    by_cases h : c = x
    · subst h
      simp [List.isPrefixOf]
    · have h1 : (c == x) = false := beq_eq_false_iff_ne.2 h
      have h3 : ¬ x = c := fun e => h e.symm
      simp [List.isPrefixOf, h1, h3]
theorem sign1_find (x : UInt8) (r : List UInt8) : (((onesL.map fun c => [c]).find? fun y => y.isPrefixOf (x :: r))).getD [] = sign1 x := by
  rw [find_ones]
  unfold sign1 onesL
  split <;> rfl
theorem signP_find (l : List UInt8) : (signsL.find? fun y => y.isPrefixOf l).getD [] = signP l := by
  rw [signsL_eq, List.find?_append]
  match l with
  | [] => rfl
  | [x] =>
    have h : (pairsL.find? fun y => y.isPrefixOf [x]) = none := by simp [pairsL, List.find?, List.isPrefixOf]
    rw [h, Option.none_or]
    exact sign1_find x []
  | x :: y :: r =>
    show _ = if (x = 60 ∧ y = 62) ∨ (x = 60 ∧ y = 61) ∨ (x = 62 ∧ y = 61) then [x, y] else sign1 x
    by_cases h : (x = 60 ∧ y = 62) ∨ (x = 60 ∧ y = 61) ∨ (x = 62 ∧ y = 61)
    · rw [if_pos h]
      rcases h with ⟨rfl, rfl⟩ | ⟨rfl, rfl⟩ | ⟨rfl, rfl⟩ <;> simp [pairsL, List.find?, List.isPrefixOf]
    · rw [if_neg h]
      have hn : (pairsL.find? fun z => z.isPrefixOf (x :: y :: r)) = none := by
        rw [List.find?_eq_none]
        intro z hz hp
        simp only [pairsL, List.mem_cons, List.not_mem_nil, or_false] at hz
        rcases hz with rfl | rfl | rfl <;> (simp [List.isPrefixOf] at hp; exact h (by simp [← hp.1, ← hp.2]))
      rw [hn, Option.none_or]
      exact sign1_find x (y :: r)
/-- Does a sign stand at a place? -/
def signAt (l : List UInt8) (a : Int) (y : List UInt8) : Prop := 0 ≤ a ∧ a ≤ (l.length : Int) - y.length ∧ (l.drop a.toNat).take y.length = y
theorem signAt_iff {l : List UInt8} {a : Int} {y : List UInt8} (hy : y ≠ []) : signAt l a y ↔ 0 ≤ a ∧ a < l.length ∧ y.isPrefixOf (l.drop a.toNat) = true := by
  have hy1 : 0 < y.length := List.length_pos_iff.2 hy
  unfold signAt
  rw [List.isPrefixOf_iff_prefix, List.prefix_iff_eq_take]
  constructor
  · rintro ⟨h1, h2, h3⟩
    exact ⟨h1, by omega, h3.symm⟩
  · rintro ⟨h1, h2, h3⟩
    refine ⟨h1, ?_, h3.symm⟩
    have := congrArg List.length h3
    rw [List.length_take, List.length_drop] at this
    omega
theorem signsL_ne : ∀ y ∈ signsL, y ≠ [] := by decide
theorem signsL_small : ∀ y ∈ signsL, y.length ≤ 2 ∧ 1 ≤ y.length := by decide
theorem sign_first {l : List UInt8} {a : Int} {k : Nat} (hk : k < signsL.length) (hn : ∀ j (h : j < signsL.length), j < k → ¬ signAt l a signsL[j]) (hs : signAt l a signsL[k]) : signI l a = signsL[k] := by
  obtain ⟨h1, h2, h3⟩ := (signAt_iff (signsL_ne _ (List.getElem_mem hk))).1 hs
  unfold signI
  rw [if_pos ⟨h1, h2⟩, ← signP_find]
  have : (signsL.find? fun y => y.isPrefixOf (l.drop a.toNat)) = some signsL[k] := by
    rw [List.find?_eq_some_iff_getElem]
    refine ⟨h3, k, hk, rfl, fun j hj => ?_⟩
    have := hn j (by omega) hj
    rw [signAt_iff (signsL_ne _ (List.getElem_mem _))] at this
    cases hb : signsL[j].isPrefixOf (l.drop a.toNat) with
    | false => rfl
    | true => exact absurd ⟨h1, h2, hb⟩ this
  rw [this]
  rfl
theorem sign_none {l : List UInt8} {a : Int} (hn : ∀ j (h : j < signsL.length), ¬ signAt l a signsL[j]) : signI l a = [] := by
  unfold signI
  split
  · rename_i h
    rw [← signP_find]
    have : (signsL.find? fun y => y.isPrefixOf (l.drop a.toNat)) = none := by
      rw [List.find?_eq_none]
      intro y hy hp
      obtain ⟨j, hj, rfl⟩ := List.getElem_of_mem hy
      exact hn j hj ((signAt_iff (signsL_ne _ hy)).2 ⟨h.1, h.2, hp⟩)
    rw [this]
    rfl
  · rfl
def signsC : Array Value := (signsL.map fun x => Value.string ⟨x.toArray⟩).toArray
theorem signs_row (w : World) : Row (w.alloc (.cells signsC 9)) (some ⟨w.heap.size, 0, none⟩) (signsL.map fun x => Value.string ⟨x.toArray⟩) := by
  refine Or.inr ⟨_, 0, rfl, by rw [World.size_alloc]; omega, fun j u hu => ?_⟩
  rw [World.cell?_alloc_at _ _ _ _ rfl, Nat.zero_add, ← hu]
  unfold signsC
  simp
def RSignAt (l : List UInt8) (a : Int) (V : World) (i : Value) (wr : World) : Prop := ∃ k : Nat, k ≤ 13 ∧ i = .int .i64 k ∧ Grew V wr ∧ ∀ j (h : j < signsL.length), j < k → ¬ signAt l a signsL[j]
set_option maxHeartbeats 1000000 in
set_option maxRecDepth 100000 in
theorem rsign7_any (s : ByteArray) (a : Int) (hs : s.size ≤ 1000000) (w : World) : Gives Tryd.prog 15 #[.string s, .int .i64 a] w (.string ⟨(signI (bl s) a).toArray⟩) := by
  obtain ⟨res, hres⟩ : ∃ res, signI (bl s) a = res := ⟨_, rfl⟩
  have HF : Hid (∀ (k : Nat) (hk : k < signsL.length), (∀ j (h : j < signsL.length), j < k → ¬ signAt (bl s) a signsL[j]) → signAt (bl s) a signsL[k] → res = signsL[k]) := Lib.hid fun k hk h1 h2 => by rw [← hres]; exact sign_first hk h1 h2
  have HN : Hid ((∀ j (h : j < signsL.length), ¬ signAt (bl s) a signsL[j]) → res = []) := Lib.hid fun h => by rw [← hres]; exact sign_none h
  rw [hres]
  clear hres
  unfold Gives
  go_enter Tryd.func15, Tryd.ntmps15
  go_wp2
  refine wp_world (w' := w.alloc (.cells signsC 9)) ?_ rfl
  have HR := Lib.hid (signs_row w)
  have HG0 : Hid (Grew w (w.alloc (.cells signsC 9))) := Lib.hid ((Grew.refl w).alloc _)
  generalize hW : w.alloc (.cells signsC 9) = V at HR HG0 ⊢
  clear hW
  generalize w.heap.size = g at *
  go_loopw [6] (fun i wr => RSignAt (bl s) a V i wr) (fun i _ => 13 - (intOf i).toNat)
  case atStart => exact ⟨0, by omega, rfl, Grew.refl _, fun j _ h => absurd h (Nat.not_lt_zero _)⟩
  case round =>
    obtain ⟨k, hk, rfl, hg, hn⟩ := hrel
    have HG := Lib.hid hg
    have HNo := Lib.hid hn
    clear hg hn
    by_cases h : k < 13
    · have hl : k < signsL.length := h
      obtain ⟨b, oo, hA, hb, hc⟩ := (HR.out.grew HG.out).at_ (k := k) (by rw [List.length_map]; exact hl)
      injection hA with hA
      injection hA with e1 e2 _
      subst e1 e2
      rw [List.getElem_map, Nat.zero_add] at hc
      have hy := signsL_small _ (List.getElem_mem hl)
      have HYes := Lib.hid (HF.out k hl HNo.out)
      have HNext : Hid (¬ signAt (bl s) a signsL[k] → ∀ j (h : j < signsL.length), j < k + 1 → ¬ signAt (bl s) a signsL[j]) := Lib.hid fun hq j hj hjk => by
        by_cases e : j = k
        · subst e; exact hq
        · exact HNo.out j hj (by omega)
      clear HF HN HNo
      generalize signsL[k] = y at *
      have hsz : (⟨y.toArray⟩ : ByteArray).size = y.length := mk_size y
      have HT : Hid ((⟨y.toArray⟩ : ByteArray).toList = y) := Lib.hid (ByteArray.toList_mk y)
      obtain ⟨t, ht⟩ : ∃ t, (⟨y.toArray⟩ : ByteArray) = t := ⟨_, rfl⟩
      rw [ht] at hc hsz HT
      obtain ⟨n, hyn⟩ : ∃ n, y.length = n := ⟨_, rfl⟩
      rw [hyn] at hy hsz
      have HYN := Lib.hid hyn
      have HTE := Lib.hid ht
      clear hl hyn ht
      have hsub : IntKind.i64.wrap ((s.size : Int) - (n : Int)) = (s.size : Int) - (n : Int) := IntWalk.i64_in _ (by omega)
      by_cases h1 : 0 ≤ a
      · by_cases h2 : a ≤ (s.size : Int) - n
        · obtain ⟨p, rfl⟩ : ∃ p : Nat, a = p := ⟨a.toNat, by omega⟩
          have hpn : p + n ≤ s.size := by omega
          have hadd : IntKind.i64.wrap ((p : Int) + (n : Int)) = ((p + n : Nat) : Int) := by rw [IntWalk.i64_in _ (by omega)]; omega
          have HEq : Hid ((((s.extract p (p + n)).toList == t.toList) = true) ↔ signAt (bl s) p y) := Lib.hid (by
            rw [beq_iff_eq, HT.out, ByteArray.toList_eq]
            show bl _ = y ↔ _
            rw [bl_extract, Nat.add_sub_cancel_left]
            unfold signAt
            rw [HYN.out, bl_len, Int.toNat_natCast]
            exact ⟨fun e => ⟨h1, h2, e⟩, fun e => e.2.2⟩)
          obtain ⟨m, hm⟩ : ∃ m : Nat, p + n = m := ⟨_, rfl⟩
          rw [hm] at hadd HEq
          have hsl : ∀ wx, (Instr.slice 9 (.string s) (some (.int .i64 (p : Int))) (some (.int .i64 (m : Int))) none).run Tryd.prog wx = .ok (.string (s.extract p m)) wx := fun wx => by
            have := run_slice_string (P := Tryd.prog) wx 9 s .i64 .i64 (p : Int) (m : Int) Tryd.underlying9 (by omega) (by omega) (by omega)
            simpa using this
          clear hm
          have h1' : decide ((0 : Int) ≤ (p : Int)) = true := by simp
          have h2' : decide ((p : Int) ≤ (s.size : Int) - (n : Int)) = true := by simpa using h2
          cases he : (s.extract p m).toList == t.toList
          · have HN1 := Lib.hid (HNext.out (fun hq => by have := HEq.out.2 hq; rw [he] at this; cases this))
            clear HNext HYes HEq HT HTE HYN hs hy
            go_upto_region 5 with fail
            refine wp_region_more (by kernel_rfl) (by kernel_rfl) ?_
            repeat (go_big_quiet_step ((fail)))
            refine wpQuiet_nil ?_
            rintro _ ⟨z, rfl⟩
            go_wp2
            exact ⟨⟨k + 1, by omega, by go_num, HG.out.more z, HN1.out⟩, by simp only [intOf]; omega⟩
          · have hr := HYes.out (HEq.out.1 he)
            have HRes : Hid ((⟨res.toArray⟩ : ByteArray) = t) := Lib.hid (by rw [hr]; exact HTE.out)
            clear HNext HYes HEq HT HTE HYN hs hy hr
            go_upto_region 5 with fail
            refine wp_region_more (by kernel_rfl) (by kernel_rfl) ?_
            repeat (go_big_quiet_step ((fail)))
            refine wpQuiet_nil ?_
            rintro _ ⟨z, rfl⟩
            go_wp2
            go_ret
            exact ⟨congrArg (fun x => Ending.returned (Value.string x)) HRes.out.symm, (HG0.out.trans HG.out).more z⟩
        · have HN1 := Lib.hid (HNext.out (fun hq => h2 (by have := hq.2.1; rw [HYN.out, bl_len] at this; exact this)))
          have h1' : decide ((0 : Int) ≤ a) = true := by simpa using h1
          have h2' : decide (a ≤ (s.size : Int) - (n : Int)) = false := by simp; omega
          clear HNext HYes HT HTE HYN hs hy h2
          go_upto_region 5 with fail
          refine wp_region_more (by kernel_rfl) (by kernel_rfl) ?_
          repeat (go_big_quiet_step ((fail)))
          refine wpQuiet_nil ?_
          rintro _ ⟨z, rfl⟩
          go_wp2
          exact ⟨⟨k + 1, by omega, by go_num, HG.out.more z, HN1.out⟩, by simp only [intOf]; omega⟩
      · have HN1 := Lib.hid (HNext.out (fun hq => h1 hq.1))
        have h1' : decide ((0 : Int) ≤ a) = false := by simp; omega
        clear HNext HYes HT HTE HYN hs hy h1
        go_upto_region 5 with fail
        refine wp_region_more (by kernel_rfl) (by kernel_rfl) ?_
        repeat (go_big_quiet_step ((fail)))
        refine wpQuiet_nil ?_
        rintro _ ⟨z, rfl⟩
        go_wp2
        exact ⟨⟨k + 1, by omega, by go_num, HG.out.more z, HN1.out⟩, by simp only [intOf]; omega⟩
    · obtain rfl : k = 13 := by omega
      have hr := HN.out fun j hj => HNo.out j hj hj
      subst hr
      clear HF HN HNo
      go_wp2
      go_ret
      exact ⟨rfl, HG0.out.trans HG.out⟩

theorem qq_append (l m : List UInt8) : qq (l ++ m) = qq l ++ qq m := by
  induction l with
  | nil => rfl
  | cons c l ih =>
    rw [List.cons_append, qq, qq]
    split <;> simp [ih]
theorem qq_take {l : List UInt8} {j : Nat} (h : j < l.length) : qq (l.take (j + 1)) = qq (l.take j) ++ (if l[j].toNat = 39 then [l[j], l[j]] else [l[j]]) := by
  rw [List.take_succ_eq_append_getElem h, qq_append]
  congr 1
theorem qqs {s : ByteArray} {j : Nat} (h : j < s.size) : qq ((bl s).take (j + 1)) = qq ((bl s).take j) ++ (if s[j].toNat = 39 then [s[j], s[j]] else [s[j]]) := by
  have := qq_take (l := bl s) (j := j) (by rw [bl_len]; exact h)
  simp only [bl_get h] at this
  exact this
def RQuoAt (s : ByteArray) (w : World) (o i : Value) (wr : World) : Prop := ∃ (j : Nat) (x : ByteArray), j ≤ s.size ∧ i = .int .i64 j ∧ o = .string x ∧ wr = w ∧ bl x = 39 :: qq ((bl s).take j)
set_option maxHeartbeats 1000000 in
set_option maxRecDepth 100000 in
theorem rquote_any (s : ByteArray) (hs : s.size ≤ 100000) (w : World) : Gives Tryd.prog 19 #[.string s] w (.string ⟨(39 :: (qq (bl s) ++ [39])).toArray⟩) := by
  obtain ⟨fin, hfin⟩ : ∃ fin, (⟨(39 :: (qq (bl s) ++ [39])).toArray⟩ : ByteArray) = fin := ⟨_, rfl⟩
  have HF := Lib.hid hfin
  rw [hfin]
  clear hfin
  unfold Gives
  go_enter Tryd.func19, Tryd.ntmps19
  go_wp2
  go_loopw [3, 4] (fun o i wr => RQuoAt s w o i wr) (fun _ i _ => s.size - (intOf i).toNat)
  case atStart => exact ⟨0, ⟨#[39]⟩, Nat.zero_le _, rfl, rfl, rfl, rfl⟩
  case round =>
    obtain ⟨j, x, hj, rfl, rfl, rfl, hx⟩ := hrel
    have hql := (qq_len ((bl s).take j)).2
    have hxl : x.size ≤ 300000 := by
      have := congrArg List.length hx
      rw [bl_len, List.length_cons] at this
      rw [List.length_take, bl_len] at hql
      omega
    have HX := Lib.hid hx
    clear hql hx
    by_cases h : j < s.size
    · have he := ext_one h
      have HT := Lib.hid (qqs h)
      have h1 : (⟨#[s[j]]⟩ : ByteArray).size = 1 := rfl
      have h2 : (x ++ ⟨#[s[j]]⟩).size ≤ 300001 := by rw [ByteArray.size_append]; omega
      have h3 : (⟨#[39]⟩ : ByteArray).size = 1 := rfl
      by_cases h39 : s[j].toNat = 39
      · have hq : ((s[j].toNat : Int) == 39) = true := by rw [h39]; rfl
        have HN : Hid (bl (x ++ ⟨#[s[j]]⟩ ++ ⟨#[39]⟩) = 39 :: qq ((bl s).take (j + 1))) := Lib.hid (by
          rw [bl_append, bl_append, HX.out, HT.out, if_pos h39]
          have e := is39 h39
          simp [bl, e])
        clear h39 HT HX
        go_wp2
        exact ⟨⟨j + 1, _, by omega, by go_num, rfl, rfl, HN.out⟩, by simp only [intOf]; omega⟩
      · have hq : ((s[j].toNat : Int) == 39) = false := by rw [beq_eq_false_iff_ne]; omega
        have HN : Hid (bl (x ++ ⟨#[s[j]]⟩) = 39 :: qq ((bl s).take (j + 1))) := Lib.hid (by
          rw [bl_append, HX.out, HT.out, if_neg h39]
          simp [bl])
        clear h39 HT HX
        go_wp2
        exact ⟨⟨j + 1, _, by omega, by go_num, rfl, rfl, HN.out⟩, by simp only [intOf]; omega⟩
    · obtain rfl : j = s.size := by omega
      have HFx : Hid (x ++ ⟨#[39]⟩ = fin) := Lib.hid (by
        rw [← HF.out]
        refine bl_ext ?_
        rw [bl_append, HX.out, bl_mk (39 :: (qq (bl s) ++ [39])), List.take_of_length_le (by rw [bl_len]; exact Nat.le_refl _)]
        rfl)
      have h3 : (⟨#[39]⟩ : ByteArray).size = 1 := rfl
      clear HX HF
      go_wp2
      go_ret
      exact ⟨congrArg (fun x => Ending.returned (Value.string x)) HFx.out, Grew.refl _⟩
end Go.Proofs.YtlmohihodhdcfaaDoor
