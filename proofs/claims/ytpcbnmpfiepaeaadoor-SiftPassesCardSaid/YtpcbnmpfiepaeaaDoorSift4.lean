/- Layer 20: keys put into a filter. Condition: rows that lie in memory that is there; keys that are not much; the library's table of powers. -/
import Derived.Test.YtpcbnmpfiepaeaaDoorSift3
import Derived.Test.YtpcbnmpfiepaeaaDoorBloom5
import Derived.Test.YtpcbnmpfiepaeaaDoorRKey3
namespace Go.Proofs.YtpcbnmpfiepaeaaDoor
open Go.RowKit
attribute [local go_sem] more_cell more_frozen more_more more_setCell more_of_drew more_of_drewN lt_more le_more past_cell past_cell2 past_frozen past_frozen2 past_setCell past_setCell2 mid_cell mid_frozen mid_setCell
attribute [local go_sem ↓] Go.wp_at_zero Go.wp_at_succ

/-- A row's number. -/
def hashN (seed : Int) (l : List Vl) : Nat := (textI seed ⟨(keyRowL l).toArray⟩).toNat
theorem hashN_is (seed : Int) (l : List Vl) : ((hashN seed l : Nat) : Int) = textI seed ⟨(keyRowL l).toArray⟩ ∧ hashN seed l < 18446744073709551616 := by
  have h : uI (textI seed ⟨(keyRowL l).toArray⟩) := mixI_uI _
  unfold uI at h
  unfold hashN
  omega
/-- A filter of keys. -/
structure Sf where
  ws : List Nat
  k : Nat
  ss : List S
  seed : Int
  cnt : Int
def sfC (f : Sf) (g c : Nat) (A : Option Addr) (cA : Nat) : List Value := [.slice (some ⟨g, 0, none⟩) f.ws.length c, .int .i64 f.k, .slice A f.ss.length cA, .int .i64 f.seed, .int .i64 f.cnt]
/-- The numbers of those keys that are whole. -/
def numsK (seed : Int) (keys : List (List Vl)) : List Nat := (keys.filter wholeV).map (hashN seed)
def spansK (ss : List S) (keys : List (List Vl)) : List S := keys.foldl (fun ss key => if wholeV key then withJ ss key key.length else ss) ss
def addF (f : Sf) (keys : List (List Vl)) : Sf := ⟨addW f.ws f.k (numsK f.seed keys), f.k, spansK f.ss keys, f.seed, f.cnt + ((keys.filter wholeV).length : Nat)⟩
theorem numsK_snoc {seed : Int} {keys : List (List Vl)} {j : Nat} (h : j < keys.length) : numsK seed (keys.take (j + 1)) = if wholeV keys[j] then numsK seed (keys.take j) ++ [hashN seed keys[j]] else numsK seed (keys.take j) := by
  unfold numsK
  rw [List.take_succ_eq_append_getElem h, List.filter_append, List.map_append]
  by_cases hw : wholeV keys[j] = true
  · rw [if_pos hw, List.filter_cons_of_pos hw]; rfl
  · rw [if_neg hw, List.filter_cons_of_neg hw]; simp
theorem spansK_snoc {ss : List S} {keys : List (List Vl)} {j : Nat} (h : j < keys.length) : spansK ss (keys.take (j + 1)) = if wholeV keys[j] then withJ (spansK ss (keys.take j)) keys[j] keys[j].length else spansK ss (keys.take j) := by
  unfold spansK
  rw [List.take_succ_eq_append_getElem h, List.foldl_append]
  rfl
theorem numsK_len (seed : Int) (keys : List (List Vl)) : (numsK seed keys).length = (keys.filter wholeV).length := by simp [numsK]
theorem numsK_le (seed : Int) (keys : List (List Vl)) : (numsK seed keys).length ≤ keys.length := by
  rw [numsK_len]
  exact List.length_filter_le _ _
theorem numsK_ok (seed : Int) (keys : List (List Vl)) : wordsOk (numsK seed keys) := fun x hx => by
  obtain ⟨l, _, rfl⟩ := List.mem_map.1 hx
  exact (hashN_is seed l).2
/-- No key is much. -/
def KeysOk (keys : List (List Vl)) : Prop := keys.length ≤ 1000 ∧ ∀ r ∈ keys, r.length ≤ 1000 ∧ (∀ v ∈ r, v.s.size ≤ 3000) ∧ (keyRowL r).length ≤ 1000000
theorem spansK_few {m : Nat} {ss : List S} {keys : List (List Vl)} (hs : ∀ s ∈ ss, FewN m s) (hl : ss.length ≤ 1000) (hk : KeysOk keys) : ∀ j, j ≤ keys.length → (∀ s ∈ spansK ss (keys.take j), FewN (m + j) s) ∧ (spansK ss (keys.take j)).length ≤ 1000
  | 0, _ => by
    rw [List.take_zero]
    exact ⟨hs, hl⟩
  | j + 1, h => by
    obtain ⟨h1, h2⟩ := spansK_few hs hl hk j (by omega)
    rw [spansK_snoc (by omega)]
    have hr := (hk.2 _ (List.getElem_mem (show j < keys.length by omega))).1
    by_cases hw : wholeV keys[j] = true
    · rw [if_pos hw]
      refine ⟨fun s hs' => ?_, by rw [withJ_len]; omega⟩
      obtain ⟨i, hi, rfl⟩ := List.getElem_of_mem hs'
      have h3 := withJ_few (l := keys[j]) h1 keys[j].length i hi
      have hmono : ∀ {a b : Nat} {s : S}, FewN a s → a ≤ b → FewN b s := fun h4 h5 => ⟨h4.1, h4.2.1, by have := h4.2.2; omega⟩
      by_cases hik : i < keys[j].length
      · rw [if_pos hik] at h3
        exact h3
      · rw [if_neg hik] at h3
        exact hmono h3 (by omega)
    · rw [if_neg hw]
      exact ⟨fun s hs' => ⟨(h1 s hs').1, (h1 s hs').2.1, by have := (h1 s hs').2.2; push_cast; omega⟩, h2⟩
/-- A filter is handed back. -/
def SfF (w : World) (f : Sf) (en : Ending) (w' : World) : Prop := ∃ g c A cA, en = .returned (.agg (sfC f g c A cA).toArray) ∧ Grew w w' ∧ URow w' (some ⟨g, 0, none⟩) f.ws ∧ Row w' A (flatS f.ss)
def AdAt (w u : World) (gB g c : Nat) (f : Sf) (keys : List (List Vl)) (v i : Value) (wr : World) : Prop :=
  ∃ (j : Nat) (N : Option Addr) (cN : Nat) (S0 : Option Addr) (cS : Nat), j ≤ keys.length ∧ i = .int .i64 j ∧ v = .slice N (numsK f.seed (keys.take j)).length cN ∧
    wr.ownsRow u.heap.size 51 1 (.slice N (numsK f.seed (keys.take j)).length cN) (numsK f.seed (keys.take j)).length (uV (numsK f.seed (keys.take j))) ∧
    wr.ownsRow u.heap.size 50 8 (.slice S0 (spansK f.ss (keys.take j)).length cS) (spansK f.ss (keys.take j)).length (flatS (spansK f.ss (keys.take j))) ∧
    Blok wr gB 32 #[.slice (some ⟨g, 0, none⟩) f.ws.length c, .int .i64 f.k, .slice S0 (spansK f.ss (keys.take j)).length cS, .int .i64 f.seed, .int .i64 (f.cnt + ((numsK f.seed (keys.take j)).length : Nat))] ∧
    Blok wr (gB + 1) 32 #[.slice none 0 0, .int .i64 0, .slice none 0 0, .int .i64 0, .int .i64 0] ∧ Grew w wr ∧ u.heap.size ≤ wr.heap.size
theorem own_kept {w w' : World} {base size n : Nat} {e : TypeId} {v : Value} {xs : List Value} {A : Option Addr} (h : w.ownsRow base e size v n xs) (k : Kept w w' A) (hn : ∀ q, v.ownBlock = some q → ∀ a, A = some a → a.block ≠ q) : w'.ownsRow base e size v n xs := by
  have hlt := own_lt h
  obtain ⟨h1, h2⟩ := h
  refine ⟨h1, ?_⟩
  rcases h2 with h2 | ⟨g, cap, cur, hv, hg, hh, hr⟩
  · exact Or.inl h2
  · subst hv
    refine Or.inr ⟨g, cap, cur, rfl, hg, ?_, hr⟩
    rw [k g (hlt g rfl) (fun a ha => hn g rfl a ha)]
    exact hh
theorem own_grownBy {w w' : World} {base size n : Nat} {e : TypeId} {v : Value} {xs : List Value} {row : Option Nat} (h : w.ownsRow base e size v n xs) (k : w.grownBy w' row) (hn : ∀ q, v.ownBlock = some q → row ≠ some q) : w'.ownsRow base e size v n xs := by
  have hlt := own_lt h
  obtain ⟨h1, h2⟩ := h
  refine ⟨h1, ?_⟩
  rcases h2 with h2 | ⟨g, cap, cur, hv, hg, hh, hr⟩
  · exact Or.inl h2
  · subst hv
    refine Or.inr ⟨g, cap, cur, rfl, hg, ?_, hr⟩
    rw [k.block g (hlt g rfl) (fun e => hn g rfl e.symm)]
    exact hh
theorem uV_snoc (l : List Nat) (x : Nat) : uV l ++ [.int .u64 (x : Int)] = uV (l ++ [x]) := by simp [uV]
theorem apart_rows {w : World} {base base' size size' n n' c c' : Nat} {e e' : TypeId} {A A' : Option Addr} {xs xs' : List Value} (h : w.ownsRow base e size (.slice A n c) n xs) (h' : w.ownsRow base' e' size' (.slice A' n' c') n' xs') (he : e ≠ e') : ∀ q, (Value.slice A n c).ownBlock = some q → ∀ a, A' = some a → a.block ≠ q := by
  intro q hq a ha hb
  subst ha
  have hlt' := h'.2
  rcases h.2 with ⟨h0, _⟩ | ⟨g, cap, cur, hv, _, hh, _⟩
  · injection h0 with h0
    subst h0
    cases hq
  · rcases h'.2 with ⟨h0, _⟩ | ⟨g', cap', cur', hv', _, hh', _⟩
    · cases h0
    · injection hv with hv _ _
      injection hv' with hv' _ _
      subst hv
      injection hv' with hv'
      subst hv'
      have e1 : g = q := by simpa [Value.ownBlock] using hq
      have e2 : g' = q := hb
      subst e1
      rw [e2] at hh'
      rw [hh] at hh'
      injection hh' with hh'
      injection hh' with _ hh' _
      exact he hh'
set_option maxHeartbeats 8000000 in
set_option maxRecDepth 100000 in
theorem sadd_any (f : Sf) (keys : List (List Vl)) (g c : Nat) (A B : Option Addr) (cA cB m : Nat) (hw0 : 0 < f.ws.length) (hwl : f.ws.length ≤ 1000000) (hk0 : 0 < f.k) (hk5 : f.k ≤ 5) (hwo : wordsOk f.ws) (hsl : f.ss.length ≤ 1000) (hsf : ∀ s ∈ f.ss, FewN m s) (hm : m ≤ 100000) (hc0 : 0 ≤ f.cnt) (hc1 : f.cnt ≤ 1000000) (hk : KeysOk keys) (w : World) (hw : URow w (some ⟨g, 0, none⟩) f.ws) (hs : Row w A (flatS f.ss)) (rk : RwsR (PRow w) B keys) (htab : Lib.TabIs Tryd.prog w "internal/strconv.uint64pow10" .u64 Lib.pow10Tab) :
    Calls Tryd.prog 6 #[.agg #[.slice (some ⟨g, 0, none⟩) f.ws.length c, .int .i64 f.k, .slice A f.ss.length cA, .int .i64 f.seed, .int .i64 f.cnt], .slice B keys.length cB] w (SfF w (addF f keys)) := by
  have HW := Lib.hid hw
  have HSp := Lib.hid hs
  have RK := Lib.hid rk
  have HTab := Lib.hid htab
  have HWO := Lib.hid hwo
  have HFew := Lib.hid (spansK_few hsf hsl hk)
  have HKO := Lib.hid hk.2
  have hkl := hk.1
  obtain ⟨ws, k, ss, seed, cnt⟩ := f
  simp only at *
  clear hw hs rk htab hwo hsf hk
  have hkz : ((k : Int) == 0) = false := by rw [beq_eq_false_iff_ne]; omega
  obtain ⟨u0, hu0⟩ : ∃ u0, (w.alloc (.cells #[.slice (some ⟨g, 0, none⟩) ws.length c, .int .i64 k, .slice A ss.length cA, .int .i64 seed, .int .i64 cnt] 32)).alloc (.cells #[.slice none 0 0, .int .i64 0, .slice none 0 0, .int .i64 0, .int .i64 0] 32) = u0 := ⟨_, rfl⟩
  have HB0 : Hid (Blok u0 w.heap.size 32 #[.slice (some ⟨g, 0, none⟩) ws.length c, .int .i64 k, .slice A ss.length cA, .int .i64 seed, .int .i64 cnt]) := Lib.hid (by rw [← hu0]; exact (Blok.new _ _ _ _ rfl).alloc _)
  have HZ0 : Hid (Blok u0 (w.heap.size + 1) 32 #[.slice none 0 0, .int .i64 0, .slice none 0 0, .int .i64 0, .int .i64 0]) := Lib.hid (by rw [← hu0]; exact Blok.new _ _ _ _ (by rw [World.size_alloc]))
  have HGu : Hid (Grew w u0) := Lib.hid (by rw [← hu0]; exact ((Grew.refl w).alloc _).alloc _)
  have hus : u0.heap.size = w.heap.size + 2 := by rw [← hu0, World.size_alloc, World.size_alloc]
  have Hu0 := Lib.hid hu0
  have Hus := Lib.hid hus
  clear hu0 hus
  go_enter Tryd.func6, Tryd.ntmps6
  go_wp2_with fail
  rw [Hu0.out]
  clear Hu0
  obtain ⟨gB, hgB⟩ : ∃ gB, w.heap.size = gB := ⟨_, rfl⟩
  rw [hgB] at HB0 HZ0 Hus ⊢
  have HgB : Hid (w.heap.size ≤ gB) := Lib.hid (Nat.le_of_eq hgB)
  clear hgB
  refine (bits_val _ _ _ _ rfl (k : Int) _).grows.mono ?_
  rintro e w1 ⟨rfl, hg1⟩
  have HG1 := Lib.hid hg1
  have hb1 := HB0.out.grew hg1
  have HB1 := Lib.hid hb1
  have hbl := hb1.lt
  have k2 := hb1.cell 2
  simp at k2
  have HCl := Lib.hid (sclone_any ss (by omega) A cA w1 (HSp.out.grew (HGu.out.trans hg1)))
  clear hg1 hb1 HB0
  go_wp2_with fail
  refine HCl.out.mono ?_
  rintro e w2 ⟨A1, c1, rfl, hg2, ho2⟩
  have hb2 := HB1.out.grew hg2
  have z2 := hb2.thaw 2
  have hbl2 := hb2.lt
  have k22 := hb2.cell 2
  simp at k22
  have HU2 : Hid (Grew u0 w2) := Lib.hid (HG1.out.trans hg2)
  have HO2 : Hid (w2.ownsRow u0.heap.size 50 8 (.slice A1 ss.length c1) ss.length (flatS ss)) := Lib.hid (own_le ho2 HG1.out.size)
  have HB2 := Lib.hid hb2
  have HZ2 := Lib.hid (HZ0.out.grew HU2.out)
  clear hb2 hg2 ho2 HCl HB1 HG1 HZ0 hbl k2
  go_wp2
  go_loopw [5, 19] (fun v i wr => AdAt w u0 gB g c ⟨ws, k, ss, seed, cnt⟩ keys v i wr) (fun _ i _ => keys.length - (intOf i).toNat)
  case atStart =>
    refine ⟨0, none, 0, A1, c1, Nat.zero_le _, rfl, rfl, own_none _ _ _ 1, ?_, ?_, ?_, ?_, ?_⟩
    · exact ownsRow_setCell_below HO2.out (by show gB < u0.heap.size; rw [Hus.out]; omega) _
    · have h := HB2.out.set 2 (.slice A1 ss.length c1)
      rw [List.take_zero]
      show Blok _ gB _ #[.slice (some ⟨g, 0, none⟩) ws.length c, .int .i64 k, .slice A1 ss.length c1, .int .i64 seed, .int .i64 (cnt + 0)]
      rw [Int.add_zero]
      exact h
    · exact HZ2.out.far (by show gB + 1 ≠ gB; omega) _
    · exact (HGu.out.trans HU2.out).setCell HgB.out _
    · rw [World.size_setCell]
      exact HU2.out.size
  case round =>
    clear HO2 HB2 HZ2 HU2 z2 hbl2 k22
    obtain ⟨j, N, cN, S0, cS, hj, rfl, rfl, hon, hos, hbb, hbz, hg, hsz⟩ := hrel
    simp only at hon hos hbb
    have HON := Lib.hid hon
    have HOS := Lib.hid hos
    have HBB := Lib.hid hbb
    have HBZ := Lib.hid hbz
    have HG := Lib.hid hg
    have HSZ := Lib.hid hsz
    clear hon hos hbb hbz hg hsz
    by_cases h : j < keys.length
    · have hji : (j : Int) < (keys.length : Int) := by omega
      have e0 : decide ((j : Int) < (keys.length : Int)) = true := decide_eq_true hji
      obtain ⟨kb, ko, PA, ka, rfl, hkb, c0', hka, hva⟩ := rwsR_at RK.out h
      have c0 := (HG.out.cell (a := ⟨kb, ko + j, none⟩) hkb).trans c0'
      have hkbl : kb < wr.heap.size := Nat.lt_of_lt_of_le hkb HG.out.size
      obtain ⟨l1, l2, l3⟩ := HKO.out _ (List.getElem_mem h)
      have HNs := Lib.hid (numsK_snoc (seed := seed) h)
      have HSs := Lib.hid (spansK_snoc (ss := ss) h)
      obtain ⟨hfj, hlj⟩ := HFew.out j hj
      have hnn := Nat.le_trans (numsK_le seed (keys.take j)) (List.length_take_le j keys)
      have HHs : Hid (∀ W, Grew w W → Gives Tryd.prog 19 #[.int .i64 seed, .slice PA keys[j].length ka] W (.int .u64 (hashN seed keys[j] : Nat))) := Lib.hid fun W hW => by
        rw [(hashN_is seed keys[j]).1]
        exact row17_any seed keys[j] l1 l2 l3 PA ka W (hva.grew hW) (tab_grew HTab.out hW)
      have HVl := Lib.hid hva
      have HWh : Hid (Gives Tryd.prog 14 #[.slice PA keys[j].length ka] wr (.bool (wholeV keys[j]))) := Lib.hid (whole_any _ (by omega) PA ka wr (hva.grew HG.out))
      clear c0' hkb hka hva l2 l3
      have HXf : Hid (wholeV keys[j] = false → ∀ W, Grew wr W → AdAt w u0 gB g c ⟨ws, k, ss, seed, cnt⟩ keys (.slice N (numsK seed (keys.take j)).length cN) (.int .i64 ((j : Int) + 1)) W) := Lib.hid fun hf W hW => by
        have e1 : numsK seed (keys.take (j + 1)) = numsK seed (keys.take j) := by rw [HNs.out, if_neg (by rw [hf]; decide)]
        have e2 : spansK ss (keys.take (j + 1)) = spansK ss (keys.take j) := by rw [HSs.out, if_neg (by rw [hf]; decide)]
        refine ⟨j + 1, N, cN, S0, cS, by omega, by go_num, ?_, ?_, ?_, ?_, HBZ.out.grew hW, HG.out.trans hW, Nat.le_trans HSZ.out hW.size⟩
        · simp only; rw [e1]
        · simp only; rw [e1]; exact own_thus' HON.out hW
        · simp only; rw [e2]; exact own_thus' HOS.out hW
        · simp only; rw [e1, e2]; exact HBB.out.grew hW
      have HXt : Hid (wholeV keys[j] = true → ∀ W N2 cN2 S2 cS2, W.ownsRow u0.heap.size 51 1 (.slice N2 ((numsK seed (keys.take j)).length + 1) cN2) ((numsK seed (keys.take j)).length + 1) (uV (numsK seed (keys.take j) ++ [hashN seed keys[j]])) →
          W.ownsRow u0.heap.size 50 8 (.slice S2 (withJ (spansK ss (keys.take j)) keys[j] keys[j].length).length cS2) (withJ (spansK ss (keys.take j)) keys[j] keys[j].length).length (flatS (withJ (spansK ss (keys.take j)) keys[j] keys[j].length)) →
          Blok W gB 32 #[.slice (some ⟨g, 0, none⟩) ws.length c, .int .i64 k, .slice S2 (withJ (spansK ss (keys.take j)) keys[j] keys[j].length).length cS2, .int .i64 seed, .int .i64 (cnt + ((numsK seed (keys.take j)).length : Nat) + 1)] →
          Blok W (gB + 1) 32 #[.slice none 0 0, .int .i64 0, .slice none 0 0, .int .i64 0, .int .i64 0] → Grew w W → u0.heap.size ≤ W.heap.size →
          AdAt w u0 gB g c ⟨ws, k, ss, seed, cnt⟩ keys (.slice N2 ((numsK seed (keys.take j)).length + 1) cN2) (.int .i64 ((j : Int) + 1)) W) := Lib.hid fun hf W N2 cN2 S2 cS2 h1 h2 h3 h4 h5 h6 => by
        have e1 : numsK seed (keys.take (j + 1)) = numsK seed (keys.take j) ++ [hashN seed keys[j]] := by rw [HNs.out, if_pos hf]
        have e2 : spansK ss (keys.take (j + 1)) = withJ (spansK ss (keys.take j)) keys[j] keys[j].length := by rw [HSs.out, if_pos hf]
        have e3 : (numsK seed (keys.take j) ++ [hashN seed keys[j]]).length = (numsK seed (keys.take j)).length + 1 := by simp
        refine ⟨j + 1, N2, cN2, S2, cS2, by omega, by go_num, ?_, ?_, ?_, ?_, h4, h5, h6⟩
        · simp only; rw [e1, e3]
        · simp only; rw [e1, e3]; exact h1
        · simp only; rw [e2]; exact h2
        · simp only
          rw [e1, e2, e3]
          have e4 : cnt + ((((numsK seed (keys.take j)).length + 1 : Nat)) : Int) = cnt + ((numsK seed (keys.take j)).length : Nat) + 1 := by omega
          rw [e4]
          exact h3
      clear HNs HSs HFew HKO
      generalize numsK seed (keys.take j) = nums at *
      generalize spansK ss (keys.take j) = sps at *
      generalize hashN seed keys[j] = hh at *
      generalize keys[j] = key at *
      obtain ⟨wk, hwk⟩ : ∃ wk, wholeV key = wk := ⟨_, rfl⟩
      rw [hwk] at HWh HXf HXt
      clear hwk
      have hwith : (withJ sps key key.length).length ≤ 100000 := by rw [withJ_len]; omega
      have HWt : Hid (∀ W c2, w.heap.size ≤ u0.heap.size → u0.heap.size ≤ W.heap.size → Grew w W → W.ownsRow u0.heap.size 50 8 (.slice S0 sps.length c2) sps.length (flatS sps) → Calls Tryd.prog 20 #[.slice S0 sps.length c2, .slice PA key.length ka] W (WithF w W u0.heap.size S0 (withJ sps key key.length))) := Lib.hid fun W c2 h1 h2 h3 h4 => with_any w u0.heap.size (m + j) sps key (by omega) hfj (by omega) (by omega) S0 PA c2 ka W h1 h2 h3 h4 HVl.out
      generalize withJ sps key key.length = sps2 at *
      clear hfj
      obtain ⟨nn, hnn2⟩ : ∃ nn, nums.length = nn := ⟨_, rfl⟩
      have HNn := Lib.hid hnn2
      rw [hnn2] at HON HBB HXf HXt hnn ⊢
      clear hnn2
      go_wp2_with fail
      (with_reducible refine HWh.out.grows.mono ?_)
      rintro e w3 ⟨rfl, hg3⟩
      have HG3 := Lib.hid hg3
      clear hg3 HWh
      cases wk
      · have HX := Lib.hid (HXf.out (by first | rfl | trivial) w3 HG3.out)
        clear HXf HXt
        go_wp2
        exact ⟨HX.out, by simp only [intOf]; omega⟩
      · have hb3 := HBB.out.grew HG3.out
        have k3 := hb3.cell 3
        simp at k3
        have hbl3 := hb3.lt
        clear hb3 HXf
        go_wp2_with fail
        (with_reducible refine (HHs.out w3 (HG.out.trans HG3.out)).grows.mono ?_)
        rintro e w4 ⟨rfl, hg4⟩
        have HG4 : Hid (Grew wr w4) := Lib.hid (HG3.out.trans hg4)
        have HON4 := Lib.hid (own_thus' HON.out HG4.out)
        have HOS4 := Lib.hid (own_thus' HOS.out HG4.out)
        have HB4 := Lib.hid (HBB.out.grew HG4.out)
        have HZ4 := Lib.hid (HBZ.out.grew HG4.out)
        have HGw4 := Lib.hid (HG.out.trans HG4.out)
        have HSZ4 : Hid (u0.heap.size ≤ (w4.alloc (.cells #[.int .u64 (hh : Int)] 51)).heap.size) := Lib.hid (Nat.le_trans HSZ.out (HG4.out.alloc _).size)
        clear hg4 hbl3 k3 HG3 HHs HON HOS HBB HBZ
        have HN5 : Hid (∀ w5, (w4.alloc (.cells #[.int .u64 (hh : Int)] 51)).grownBy w5 (Value.slice N nn cN).ownBlock →
            Blok w5 gB 32 #[.slice (some ⟨g, 0, none⟩) ws.length c, .int .i64 k, .slice S0 sps.length cS, .int .i64 seed, .int .i64 (cnt + (nn : Nat))] ∧ Blok w5 (gB + 1) 32 #[.slice none 0 0, .int .i64 0, .slice none 0 0, .int .i64 0, .int .i64 0] ∧
            w5.ownsRow u0.heap.size 50 8 (.slice S0 sps.length cS) sps.length (flatS sps) ∧ Grew w w5 ∧ u0.heap.size ≤ w5.heap.size) := Lib.hid fun w5 hg5 => by
          have hob := own_base HON4.out
          have hne : ∀ q, q < u0.heap.size → (Value.slice N nn cN).ownBlock ≠ some q := fun q hq e => by have := hob q e; omega
          refine ⟨(HB4.out.alloc _).grown hg5 (hne gB (by rw [Hus.out]; omega)), (HZ4.out.alloc _).grown hg5 (hne (gB + 1) (by rw [Hus.out]; omega)), own_grownBy (own_alloc HOS4.out _) hg5 (fun q hq e => ?_), (HGw4.out.alloc _).grown hg5 (fun q hq => Nat.le_trans HGu.out.size (hob q hq)), Nat.le_trans HSZ4.out hg5.size⟩
          cases N with
          | none => cases e
          | some a => exact apart_rows HOS4.out HON4.out (by decide) q hq a rfl (by simpa [Value.ownBlock] using e)
        go_wp2_with (at_builtin; refine wpList_appC rfl (.tmp 26) (.tmp 31) 26 51 1 rfl u0.heap.size (.int .u64 0) 8 Tryd.underlying26 infoU rfl (by decide) (by decide) N cN nn (uV nums) rfl (own_alloc HON4.out _) _ 1 1 [.int .u64 (hh : Int)] rfl rfl (row_new _ _ _ _ rfl) (by simp [Value.oneCell']) (by omega) HSZ4.out ?_; intro N2 cN2 w5 ho5 hg5 _; rw [uV_snoc] at ho5; obtain ⟨hb5, hz5, hs5, hgw5, hsz5⟩ := HN5.out w5 hg5; have HO5 := Lib.hid ho5; have HB5 := Lib.hid hb5; have HZ5 := Lib.hid hz5; have HS5 := Lib.hid hs5; have HG5 := Lib.hid hgw5; have HSZ5 := Lib.hid hsz5; have k25 := hb5.cell 2; simp at k25; have hbl5 := hb5.lt; clear ho5 hg5 hb5 hz5 hs5 hgw5 hsz5)
        clear HN5 HON4 HOS4 HB4 HZ4 HGw4 HSZ4
        refine (HWt.out w5 cS HGu.out.size HSZ5.out HG5.out HS5.out).mono ?_
        rintro e w6 ⟨S2, cS2, rfl, ho6, hg6, hsz6, hk6⟩
        have hneS : ∀ q, q < u0.heap.size → ∀ a, S0 = some a → a.block ≠ q := fun q hq a ha e => by
          subst ha
          have := own_base HS5.out a.block rfl
          omega
        have hb6 : Blok w6 gB 32 #[.slice (some ⟨g, 0, none⟩) ws.length c, .int .i64 k, .slice S0 sps.length cS, .int .i64 seed, .int .i64 (cnt + (nn : Nat))] := (hk6 gB HB5.out.lt (hneS gB (by rw [Hus.out]; omega))).trans HB5.out
        have hz6 : Blok w6 (gB + 1) 32 #[.slice none 0 0, .int .i64 0, .slice none 0 0, .int .i64 0, .int .i64 0] := (hk6 (gB + 1) HZ5.out.lt (hneS (gB + 1) (by rw [Hus.out]; omega))).trans HZ5.out
        have hn6 := own_kept HO5.out hk6 (apart_rows HO5.out HS5.out (by decide))
        have hlt : gB < u0.heap.size := by rw [Hus.out]; omega
        have HX := Lib.hid (HXt.out (by first | rfl | trivial) ((w6.setCell ⟨gB, 2, none⟩ (.slice S2 sps2.length cS2)).setCell ⟨gB, 4, none⟩ (.int .i64 (cnt + (nn : Nat) + 1))) N2 cN2 S2 cS2
          (ownsRow_setCell_below (ownsRow_setCell_below hn6 (a := ⟨gB, 2, none⟩) hlt _) (a := ⟨gB, 4, none⟩) hlt _)
          (ownsRow_setCell_below (ownsRow_setCell_below ho6 (a := ⟨gB, 2, none⟩) hlt _) (a := ⟨gB, 4, none⟩) hlt _)
          ((hb6.set 2 _).set 4 _)
          ((hz6.far (p := ⟨gB, 2, none⟩) (by show gB + 1 ≠ gB; omega) _).far (p := ⟨gB, 4, none⟩) (by show gB + 1 ≠ gB; omega) _)
          ((hg6.setCell (a := ⟨gB, 2, none⟩) HgB.out _).setCell (a := ⟨gB, 4, none⟩) HgB.out _)
          (by rw [World.size_setCell, World.size_setCell]; exact Nat.le_trans HSZ5.out hsz6))
        have hw1 : IntKind.i64.wrap (cnt + (nn : Nat) + 1) = cnt + (nn : Nat) + 1 := IntWalk.i64_in _ (by omega)
        have k26 := hb6.cell 2
        have k46 := hb6.cell 4
        simp at k26 k46
        have z26 := hb6.thaw 2
        have z46 := hb6.thaw 4
        have hbl6 := hb6.lt
        clear ho6 hg6 hsz6 hk6 hb6 hz6 hn6 HXt HO5 HB5 HZ5 HS5 HG5 HSZ5 hneS hlt k25 hbl5 HWt
        go_wp2
        exact ⟨HX.out, by simp only [intOf]; omega⟩
    · obtain rfl : j = keys.length := by omega
      rw [List.take_length] at HON HOS HBB ⊢
      have hnk := numsK_le seed keys
      have hok := numsK_ok seed keys
      have HFin : Hid (∀ (W : World) (g' c' : Nat), Grew w W → URow W (some ⟨g', 0, none⟩) (addW ws k (numsK seed keys)) → Row W S0 (flatS (spansK ss keys)) → SfF w (addF ⟨ws, k, ss, seed, cnt⟩ keys) (.returned (.agg #[.slice (some ⟨g', 0, none⟩) (addW ws k (numsK seed keys)).length c', .int .i64 k, .slice S0 (spansK ss keys).length cS, .int .i64 seed, .int .i64 (cnt + ((numsK seed keys).length : Nat))])) W) := Lib.hid fun W g' c' h1 h2 h3 => ⟨g', c', S0, cS, by rw [numsK_len]; rfl, h1, h2, h3⟩
      have HUn : Hid (URow wr N (numsK seed keys)) := Lib.hid (by
        obtain ⟨A', c', he, hr⟩ := own_row HON.out
        injection he with h1 _ _
        rw [h1]
        exact hr)
      have hlen : (addW ws k (numsK seed keys)).length = ws.length := addW_len ws k _
      generalize spansK ss keys = sps at *
      generalize addF ⟨ws, k, ss, seed, cnt⟩ keys = fin at *
      have HAd := Lib.hid (badd_any ws k ws.length g c rfl hw0 (by omega) hk5 HWO.out (numsK seed keys) N cN (by omega) hok wr (HW.out.grew HG.out) HUn.out)
      generalize numsK seed keys = nums at *
      generalize addW ws k nums = ws2 at *
      have hb := HBB.out
      have k0 := hb.cell 0
      have k1 := hb.cell 1
      simp at k0 k1
      have hbl := hb.lt
      clear hb HFew HKO hok
      go_wp2_with fail
      refine HAd.out.mono ?_
      rintro e w2 ⟨g', c', rfl, hg2, hu2⟩
      have hb2 := HBB.out.grew hg2
      have hz2 := HBZ.out.grew hg2
      have hc0' : w2.cell? ⟨g', 0, none⟩ = some (.int .u64 ((ws2[0]'(by omega) : Nat) : Int)) := by
        have := row_cells hu2 0 (.int .u64 ((ws2[0]'(by omega) : Nat) : Int)) (by rw [List.getElem?_map, List.getElem?_eq_getElem (by omega)]; rfl)
        simpa using this
      have hg1 : g' ≠ gB := by
        intro e
        subst e
        have := hb2.cell 0
        rw [hc0'] at this
        simp at this
      have hg3 : g' ≠ gB + 1 := by
        intro e
        subst e
        have := hz2.cell 0
        rw [hc0'] at this
        simp at this
      have hlt : gB < u0.heap.size := by rw [Hus.out]; omega
      have hlt1 : gB + 1 < u0.heap.size := by rw [Hus.out]; omega
      obtain ⟨n2', hn2'⟩ : ∃ n2', ws2.length = n2' := ⟨_, rfl⟩
      have hlw : w.heap.size ≤ gB + 1 := by have := HgB.out; omega
      obtain ⟨W7, hW7⟩ : ∃ W7, (((((((w2.setCell ⟨gB, 0, none⟩ (.slice (some ⟨g', 0, none⟩) n2' c')).setCell ⟨gB, 1, none⟩ (.int .i64 k)).setCell ⟨gB + 1, 0, none⟩ (.slice (some ⟨g', 0, none⟩) n2' c')).setCell ⟨gB + 1, 1, none⟩ (.int .i64 k)).setCell ⟨gB + 1, 2, none⟩ (.slice S0 sps.length cS)).setCell ⟨gB + 1, 3, none⟩ (.int .i64 seed)).setCell ⟨gB + 1, 4, none⟩ (.int .i64 (cnt + (nums.length : Nat)))) = W7 := ⟨_, rfl⟩
      have hG7 : Grew w W7 := by
        rw [← hW7]
        exact Grew.setCell (Grew.setCell (Grew.setCell (Grew.setCell (Grew.setCell (Grew.setCell (Grew.setCell (HG.out.trans hg2) HgB.out _) HgB.out _) hlw _) hlw _) hlw _) hlw _) hlw _
      have hU7 : URow W7 (some ⟨g', 0, none⟩) ws2 := by
        have f0 : ∀ {w' : World} {q : Nat} {p : Nat} {v : Value}, g' ≠ q → URow w' (some ⟨g', 0, none⟩) ws2 → URow (w'.setCell ⟨q, p, none⟩ v) (some ⟨g', 0, none⟩) ws2 := fun hne h => Row.turns h ((Turns.refl _ _).set _ _) (fun a ha => by injection ha with ha; subst ha; exact hne)
        rw [← hW7]
        exact f0 hg3 (f0 hg3 (f0 hg3 (f0 hg3 (f0 hg3 (f0 hg1 (f0 hg1 hu2))))))
      have hR7 : Row W7 S0 (flatS sps) := by
        have ho := ownsRow_setCell_below (ownsRow_setCell_below (ownsRow_setCell_below (ownsRow_setCell_below (ownsRow_setCell_below (ownsRow_setCell_below (ownsRow_setCell_below (own_thus' HOS.out hg2) (a := ⟨gB, 0, none⟩) hlt (.slice (some ⟨g', 0, none⟩) n2' c')) (a := ⟨gB, 1, none⟩) hlt (.int .i64 k)) (a := ⟨gB + 1, 0, none⟩) hlt1 (.slice (some ⟨g', 0, none⟩) n2' c')) (a := ⟨gB + 1, 1, none⟩) hlt1 (.int .i64 k)) (a := ⟨gB + 1, 2, none⟩) hlt1 (.slice S0 sps.length cS)) (a := ⟨gB + 1, 3, none⟩) hlt1 (.int .i64 seed)) (a := ⟨gB + 1, 4, none⟩) hlt1 (.int .i64 (cnt + (nums.length : Nat)))
        rw [hW7] at ho
        obtain ⟨A', c'', he, hr⟩ := own_row ho
        injection he with h1 _ _
        rw [h1]
        exact hr
      have hB7 : Blok W7 (gB + 1) 32 #[(.slice (some ⟨g', 0, none⟩) n2' c'), .int .i64 k, .slice S0 sps.length cS, .int .i64 seed, .int .i64 (cnt + (nums.length : Nat))] := by
        rw [← hW7]
        exact ((((((hz2.far (p := ⟨gB, 0, none⟩) (by show gB + 1 ≠ gB; omega) _).far (p := ⟨gB, 1, none⟩) (by show gB + 1 ≠ gB; omega) _).set 0 _).set 1 _).set 2 _).set 3 _).set 4 _
      have HPost := Lib.hid (HFin.out W7 g' c' hG7 hU7 hR7)
      rw [hn2'] at HPost ⊢
      clear hn2'
      have m0 := hz2.cell 0
      have m1 := hz2.cell 1
      have m2 := hz2.cell 2
      have m3 := hz2.cell 3
      have m4 := hz2.cell 4
      have n0 := hb2.cell 0
      have n1 := hb2.cell 1
      have n2 := hb2.cell 2
      have n3 := hb2.cell 3
      have n4 := hb2.cell 4
      simp at m0 m1 m2 m3 m4 n0 n1 n2 n3 n4
      have y0 := hb2.thaw 0
      have y1 := hb2.thaw 1
      have x0 := hz2.thaw 0
      have x1 := hz2.thaw 1
      have x2 := hz2.thaw 2
      have x3 := hz2.thaw 3
      have x4 := hz2.thaw 4
      have hbl2 := hb2.lt
      have hzl2 := hz2.lt
      have HB7 := Lib.hid hB7
      have HW7 := Lib.hid hW7
      clear hg2 hu2 hb2 hz2 hc0' hg1 hg3 hlt hlt1 hG7 hU7 hR7 hB7 hW7 HFin HAd HOS HON HBB HBZ hlw hlen hnk
      generalize hnl : nums.length = nl at *
      have HNl := Lib.hid hnl
      clear hnl
      go_wp2
      rw [HW7.out]
      have r0 := HB7.out.cell 0
      have r1 := HB7.out.cell 1
      have r2 := HB7.out.cell 2
      have r3 := HB7.out.cell 3
      have r4 := HB7.out.cell 4
      simp at r0 r1 r2 r3 r4
      exact bodyPost_ret (v := .agg #[(.slice (some ⟨g', 0, none⟩) n2' c'), .int .i64 k, .slice S0 sps.length cS, .int .i64 seed, .int .i64 (cnt + (nl : Nat))]) (by simp [results, Tryd.results6, go_sem, r0, r1, r2, r3, r4]) rfl HPost.out
end Go.Proofs.YtpcbnmpfiepaeaaDoor
