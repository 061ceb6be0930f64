/- Layer 5: schema.head and schema.Check. Condition: tables that lie in memory that is there. -/
import Derived.Test.YtcokhgomibimcaaTab4
namespace Go.Proofs.Ytcokhgomibimcaa
open Go.RowKit
attribute [local go_sem] more_cell more_frozen more_more more_setCell more_of_drew more_of_drewN lt_more le_more past_cell past_cell2 past_frozen past_frozen2 past_setCell past_setCell2 mid_cell mid_frozen mid_setCell
attribute [local go_sem ↓] Go.wp_at_zero Go.wp_at_succ

theorem idx_first (ns : List ByteArray) (n : ByteArray) : ∀ m, m ≤ ns.length → (∀ i (hi : i < ns.length), i < m → ¬ ns[i] = n) ∨ ∃ z, Idx ns n z
  | 0, _ => Or.inl fun i hi h => by omega
  | m + 1, hm => by
    rcases idx_first ns n m (by omega) with h | h
    · by_cases he : ns[m]'(by omega) = n
      · exact Or.inr ⟨m, Or.inl ⟨m, rfl, by omega, he, fun j hj => h j (by omega) hj⟩⟩
      · refine Or.inl fun i hi hm' => ?_
        rcases Nat.lt_or_ge i m with h3 | h3
        · exact h i hi h3
        · have : i = m := by omega
          subst this; exact he
    · exact Or.inr h
theorem idx_exists (ns : List ByteArray) (n : ByteArray) : ∃ z, Idx ns n z := by
  rcases idx_first ns n ns.length (Nat.le_refl _) with h | h
  · exact ⟨-1, Or.inr ⟨rfl, fun x hx => by
      obtain ⟨i, hi, rfl⟩ := List.getElem_of_mem hx
      exact h i hi hi⟩⟩
  · exact h
theorem idx_unique {ns : List ByteArray} {n : ByteArray} {z z' : Int} (h : Idx ns n z) (h' : Idx ns n z') : z = z' := by
  rcases h with ⟨i, rfl, hi, h1, h2⟩ | ⟨rfl, h1⟩
  · rcases h' with ⟨i', rfl, hi', h1', h2'⟩ | ⟨rfl, h1'⟩
    · rcases Nat.lt_trichotomy i i' with h | h | h
      · exact absurd h1 (h2' i h)
      · rw [h]
      · exact absurd h1' (h2 i' h)
    · exact absurd h1 (h1' _ (List.getElem_mem hi))
  · rcases h' with ⟨i', rfl, hi', h1', h2'⟩ | ⟨rfl, h1'⟩
    · exact absurd h1' (h1 _ (List.getElem_mem hi'))
    · rfl
theorem IdxF.gives {P : Program} {f : FuncId} {args : Array Value} {w : World} {ns : List ByteArray} {n : ByteArray} {z : Int} (h : Calls P f args w (IdxF w ns n)) (hz : Idx ns n z) : Gives P f args w (.int .i64 z) :=
  h.mono fun e w' ⟨z', he, hz', hg⟩ => ⟨by rw [he, idx_unique hz hz'], hg⟩
theorem if_iff2 {α : Type} {p q : Prop} [Decidable p] [Decidable q] {a b : α} (h : p ↔ q) : (if p then a else b) = if q then a else b := by
  by_cases hp : p
  · rw [if_pos hp, if_pos (h.1 hp)]
  · rw [if_neg hp, if_neg (fun hq => hp (h.2 hq))]
def HeadAt (w : World) (cs : Array Value) (cols : List Cl) (i : Value) (wr : World) : Prop := ∃ j : Nat, j ≤ cols.length ∧ i = .int .i64 j ∧ Grew w wr ∧ Blok wr w.heap.size 80 cs ∧ ∀ i, i < j → colBad (cols.take i) (cols.getD i default) = 0
set_option maxHeartbeats 2000000 in
set_option maxRecDepth 100000 in
theorem head_any (ahead : List Tb) (t : Tb) (A C B : Option Addr) (m k k2 j2 : Nat) (hm : ahead.length = m) (hm1 : m ≤ maxLen) (ht : TbOk t) (hk2 : t.cols.length ≤ k2) (w : World) (ra : TbsR (PRow w) A ahead) (rc : ClsR (PRow w) C t.cols) :
    Gives Try.prog 121 #[.slice A m k, tbV t C k2 B j2] w (.int .i64 (headE ahead t)) := by
  obtain ⟨zn, hzn⟩ := idx_exists (ahead.map Tb.name) t.name
  have HNm : Hid (∀ W, Grew w W → Gives Try.prog 126 #[.slice A m k, .string t.name] W (.int .i64 zn)) := Lib.hid fun W hW => IdxF.gives (named_any ahead m hm hm1 t.name A k W (ra.grew hW)) hzn
  have HDup := Lib.hid (dup_tb (l := ahead) hzn)
  have RC := Lib.hid rc
  have hcl := ht.2.1.1
  have hrl := ht.2.2.1
  obtain ⟨tb, htb⟩ : ∃ tb, nameB t.name = tb := ⟨_, rfl⟩
  have HNa : Hid (∀ W, Gives Try.prog 120 #[.string t.name] W (.bool tb)) := Lib.hid fun W => by rw [← htb]; exact name_any _ _
  have HE : Hid (headE ahead t = if tb = false ∨ 0 ≤ zn then 2 else if t.cols.length = 0 ∨ 16 < t.cols.length ∨ 65536 < t.rows.length then 4 else colsE t.cols) := Lib.hid (by
    unfold headE
    rw [htb]
    exact if_iff2 (or_congr Iff.rfl HDup.out.symm))
  clear ra rc ht htb hzn hm HDup
  obtain ⟨name, cols, rows⟩ := t
  generalize headE ahead ⟨name, cols, rows⟩ = E at *
  unfold tbV Gives
  simp only at *
  cases tb
  · obtain rfl : E = 2 := by rw [HE.out]; simp
    go_enter Try.func121, Try.ntmps121
    go_wp2_with (first | (go_at_call 120; (with_reducible refine (HNa.out _).grows.mono ?_); rintro e w2 ⟨rfl, hg2⟩; have HG2 : Hid (Grew w w2) := Lib.hid (((Grew.refl w).alloc _).trans hg2); clear hg2))
    go_ret
    exact ⟨rfl, HG2.out⟩
  · by_cases h0 : 0 ≤ zn
    · obtain rfl : E = 2 := by rw [HE.out]; simp [h0]
      go_enter Try.func121, Try.ntmps121
      go_wp2_with (first | (go_at_call 120; (with_reducible refine (HNa.out _).grows.mono ?_); rintro e w2 ⟨rfl, hg2⟩; have HG2 : Hid (Grew w w2) := Lib.hid (((Grew.refl w).alloc _).trans hg2); have HB2 := Lib.hid ((Blok.new w 80 #[.string name, .slice C cols.length k2, .slice B rows.length j2] _ rfl).grew hg2); have d0 := HB2.out.cell 0; have dl := HB2.out.lt; simp at d0; clear hg2) | (go_at_call 126; (with_reducible refine (HNm.out _ HG2.out).grows.mono ?_); rintro e w3 ⟨rfl, hg3⟩; have HG3 : Hid (Grew w w3) := Lib.hid (HG2.out.trans hg3); clear hg3))
      go_ret
      exact ⟨rfl, HG3.out⟩
    · have h0' : decide (0 ≤ zn) = false := by simpa using h0
      have HE2 : Hid (E = if cols.length = 0 ∨ 16 < cols.length ∨ 65536 < rows.length then 4 else colsE cols) := Lib.hid (by rw [HE.out, if_neg (by simp [h0])])
      clear HE h0
      go_enter Try.func121, Try.ntmps121
      go_upto_region 3 with (first | (go_at_call 120; (with_reducible refine (HNa.out _).grows.mono ?_); rintro e w2 ⟨rfl, hg2⟩; have HG2 : Hid (Grew w w2) := Lib.hid (((Grew.refl w).alloc _).trans hg2); have HB2 := Lib.hid ((Blok.new w 80 #[.string name, .slice C cols.length k2, .slice B rows.length j2] _ rfl).grew hg2); have d0 := HB2.out.cell 0; have dl := HB2.out.lt; simp at d0; clear hg2) | (go_at_call 126; (with_reducible refine (HNm.out _ HG2.out).grows.mono ?_); rintro e w3 ⟨rfl, hg3⟩; have HG3 : Hid (Grew w w3) := Lib.hid (HG2.out.trans hg3); have HB3 := Lib.hid (HB2.out.grew hg3); have f1 := HB3.out.cell 1; have f2 := HB3.out.cell 2; have fl := HB3.out.lt; simp at f1 f2; clear hg3))
      clear h0' HB2 HG2 d0 dl HNm HNa
      by_cases l0 : cols.length = 0
      · obtain rfl : E = 4 := by rw [HE2.out]; simp [l0]
        have l0' : ((cols.length : Int) == 0) = true := by simp [l0]
        go_wp2
        go_ret
        exact ⟨rfl, HG3.out⟩
      have l0' : ((cols.length : Int) == 0) = false := by rw [beq_eq_false_iff_ne]; omega
      by_cases l1 : 16 < cols.length
      · obtain rfl : E = 4 := by rw [HE2.out]; simp [l1]
        have l1' : (16 : Int) < cols.length := by omega
        go_wp2
        go_ret
        exact ⟨rfl, HG3.out⟩
      have l1' : (cols.length : Int) ≤ 16 := by omega
      by_cases l2 : 65536 < rows.length
      · obtain rfl : E = 4 := by rw [HE2.out]; simp [l2]
        have l2' : (65536 : Int) < rows.length := by omega
        go_wp2
        go_ret
        exact ⟨rfl, HG3.out⟩
      have l2' : (rows.length : Int) ≤ 65536 := by omega
      have HE3 : Hid (E = colsE cols) := Lib.hid (by rw [HE2.out, if_neg (by omega)])
      clear HE2 l0 l2
      go_wp2
      clear l0' l1' l2'
      go_loopw [37] (fun i wr => HeadAt w #[.string name, .slice C cols.length k2, .slice B rows.length j2] cols i wr) (fun i _ => cols.length - (intOf i).toNat)
      case atStart => exact ⟨0, Nat.zero_le _, rfl, HG3.out, HB3.out, fun i hi => by omega⟩
      case round =>
        obtain ⟨q, hq, rfl, hg, hbk, ha⟩ := hrel
        have HG := Lib.hid hg
        have HA := Lib.hid ha
        have HBK := Lib.hid hbk
        clear hg ha hbk HG3 HB3 f1 f2 fl
        by_cases h : q < cols.length
        · obtain ⟨b, o, rfl, hb, c0, c1⟩ := clsR_at (RC.out.grew HG.out) h
          have HD := getD_of h default
          have HBad : Hid (∀ e, colBad (cols.take q) (cols.getD q default) = e → ¬ e = 0 → E = e) := Lib.hid fun e he hn => by rw [HE3.out]; exact firstE_at HA.out he hn h
          have HGd : Hid (colBad (cols.take q) (cols.getD q default) = 0 → ∀ i, i < q + 1 → colBad (cols.take i) (cols.getD i default) = 0) := Lib.hid fun hf => first_next HA.out hf
          rw [HD] at HBad HGd
          obtain ⟨zc, hzc⟩ := idx_exists ((cols.take q).map Cl.name) cols[q].name
          have hlen : (cols.take q).length = q := by rw [List.length_take]; omega
          have HCo : Hid (∀ W, Grew wr W → Gives Try.prog 128 #[.slice (some ⟨b, o, none⟩) q k2, .string cols[q].name] W (.int .i64 zc)) := Lib.hid fun W hW => IdxF.gives (column_any (cols.take q) q hlen (by unfold maxLen; omega) cols[q].name _ k2 W ((RC.out.grew (HG.out.trans hW)).take q)) hzc
          have hdup := dup_cl (l := cols.take q) hzc
          obtain ⟨tc, htc⟩ : ∃ tc, nameB cols[q].name = tc := ⟨_, rfl⟩
          have HNa : Hid (∀ W, Gives Try.prog 120 #[.string cols[q].name] W (.bool tc)) := Lib.hid fun W => by rw [← htc]; exact name_any _ _
          have HCB : Hid (colBad (cols.take q) cols[q] = if tc = false ∨ 0 ≤ zc then 2 else if ¬ cols[q].kind = 1 ∧ ¬ cols[q].kind = 2 then 3 else 0) := Lib.hid (by
            unfold colBad
            rw [htc]
            exact if_iff2 (or_congr Iff.rfl hdup.symm))
          have hqk : q ≤ k2 := by omega
          clear hdup htc hzc HD hlen
          generalize colBad (cols.take q) cols[q] = cb at *
          generalize cols[q] = c at *
          obtain ⟨cn, ck⟩ := c
          simp only at *
          go_upto_region 8 with fail
          obtain ⟨W1, hW1⟩ : ∃ W1 : World, W1 = wr.alloc (.cells #[.string cn, .int .i64 ck] 88) := ⟨_, rfl⟩
          have hbk := Blok.new wr 88 #[.string cn, .int .i64 ck] _ rfl
          have hg1 := (Grew.refl wr).alloc (.cells #[.string cn, .int .i64 ck] 88)
          rw [← hW1] at hbk hg1 ⊢
          have d0 := hbk.cell 0
          have d1 := hbk.cell 1
          have dl := hbk.lt
          simp at d0 d1
          have HBK1 := Lib.hid (HBK.out.grew hg1)
          have e1 := HBK1.out.cell 1
          have el := HBK1.out.lt
          simp at e1
          have HG1 : Hid (Grew w W1) := Lib.hid (HG.out.trans hg1)
          have HGW : Hid (∀ x, Grew wr (more W1 x)) := Lib.hid fun x => hg1.more x
          clear hbk hg1 hW1 c0 c1 hb HBK HA
          cases tc
          · obtain rfl : cb = 2 := by rw [HCB.out]; simp
            obtain rfl := HBad.out 2 rfl (by decide)
            refine wp_region_more (by kernel_rfl) (by kernel_rfl) ?_
            repeat (go_big_quiet_step (((first | (go_at_call 120; exact (HNa.out _).within) | (go_at_call 128; exact (HCo.out _ (HGW.out _)).within)))))
            refine wpQuiet_nil ?_
            rintro _ ⟨z, rfl⟩
            go_wp2
            go_ret
            exact ⟨rfl, HG1.out.more z⟩
          · by_cases hz : 0 ≤ zc
            · obtain rfl : cb = 2 := by rw [HCB.out]; simp [hz]
              obtain rfl := HBad.out 2 rfl (by decide)
              refine wp_region_more (by kernel_rfl) (by kernel_rfl) ?_
              repeat (go_big_quiet_step (((first | (go_at_call 120; exact (HNa.out _).within) | (go_at_call 128; exact (HCo.out _ (HGW.out _)).within)))))
              refine wpQuiet_nil ?_
              rintro _ ⟨z, rfl⟩
              go_wp2
              go_ret
              exact ⟨rfl, HG1.out.more z⟩
            · have hz' : decide (0 ≤ zc) = false := by simpa using hz
              have HCB2 : Hid (cb = if ¬ ck = 1 ∧ ¬ ck = 2 then 3 else 0) := Lib.hid (by rw [HCB.out, if_neg (by simp [hz])])
              clear HCB hz
              by_cases k1 : ck = 1
              · have k1' : (ck != 1) = false := by simp [k1]
                obtain rfl : cb = 0 := by rw [HCB2.out]; simp [k1]
                have HFF := Lib.hid (HGd.out rfl)
                clear HGd HBad HCB2
                refine wp_region_more (by kernel_rfl) (by kernel_rfl) ?_
                repeat (go_big_quiet_step (((first | (go_at_call 120; exact (HNa.out _).within) | (go_at_call 128; exact (HCo.out _ (HGW.out _)).within)))))
                refine wpQuiet_nil ?_
                rintro _ ⟨z, rfl⟩
                go_wp2
                exact ⟨⟨q + 1, by omega, by go_num, HG1.out.more z, HBK1.out.more z, HFF.out⟩, by simp only [intOf]; omega⟩
              · have k1' : (ck != 1) = true := by simp [k1]
                by_cases k2 : ck = 2
                · have k2' : (ck != 2) = false := by simp [k2]
                  obtain rfl : cb = 0 := by rw [HCB2.out]; simp [k2]
                  have HFF := Lib.hid (HGd.out rfl)
                  clear HGd HBad HCB2
                  refine wp_region_more (by kernel_rfl) (by kernel_rfl) ?_
                  repeat (go_big_quiet_step (((first | (go_at_call 120; exact (HNa.out _).within) | (go_at_call 128; exact (HCo.out _ (HGW.out _)).within)))))
                  refine wpQuiet_nil ?_
                  rintro _ ⟨z, rfl⟩
                  go_wp2
                  exact ⟨⟨q + 1, by omega, by go_num, HG1.out.more z, HBK1.out.more z, HFF.out⟩, by simp only [intOf]; omega⟩
                · have k2' : (ck != 2) = true := by simp [k2]
                  obtain rfl : cb = 3 := by rw [HCB2.out]; simp [k1, k2]
                  obtain rfl := HBad.out 3 rfl (by decide)
                  clear HGd HBad HCB2
                  refine wp_region_more (by kernel_rfl) (by kernel_rfl) ?_
                  repeat (go_big_quiet_step (((first | (go_at_call 120; exact (HNa.out _).within) | (go_at_call 128; exact (HCo.out _ (HGW.out _)).within)))))
                  refine wpQuiet_nil ?_
                  rintro _ ⟨z, rfl⟩
                  go_wp2
                  go_ret
                  exact ⟨rfl, HG1.out.more z⟩
        · obtain rfl : q = cols.length := by omega
          obtain rfl : E = 0 := by rw [HE3.out]; exact firstE_zero HA.out
          clear HE3
          go_wp2
          go_ret
          exact ⟨rfl, HG.out⟩
end Go.Proofs.Ytcokhgomibimcaa
