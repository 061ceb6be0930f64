/- Layer 7: all tokens of a text, by the program and by the document. Condition: a text of no more than a million bytes; the library's table of how long a search may be holds a number. -/
import Derived.Test.YtlmohihodhdcfaaDoorTok10
import Derived.Test.YtlmohihodhdcfaaDoorApp
namespace Go.Proofs.YtlmohihodhdcfaaDoor
open Go.RowKit
attribute [local go_sem] more_cell more_frozen more_more more_setCell more_of_drew more_of_drewN lt_more le_more past_cell past_cell2 past_frozen past_frozen2 past_setCell past_setCell2 mid_cell mid_frozen mid_setCell
attribute [local go_sem ↓] Go.wp_at_zero Go.wp_at_succ

/-- A token. -/
structure Tk where
  k : Int
  t : List UInt8
  i : Int
  a : Int
instance tk_some : Inhabited Tk := ⟨⟨0, [], 0, 0⟩⟩
def tkL (x : Tk) : List Value := [.int .i64 x.k, .string ⟨x.t.toArray⟩, .int .i64 x.i, .int .i64 x.a]
def tksL (l : List Tk) : List Value := (l.map tkL).flatten
theorem tksL_snoc (l : List Tk) (x : Tk) : tksL (l ++ [x]) = tksL l ++ tkL x := by simp [tksL]
theorem listT (l : List Tk) : ListR (fun x cs => cs = tkL x) 4 l (l.map tkL) := ⟨by simp, fun i x cs h1 h2 => by
  rw [List.getElem?_map, h1] at h2
  injection h2 with h2
  exact ⟨h2.symm, by rw [← h2]; rfl⟩⟩
theorem tksL_len (l : List Tk) : (tksL l).length = l.length * 4 := (listT l).flat
theorem tks_at {w : World} {A : Option Addr} {l : List Tk} (h : Row w A (tksL l)) {i : Nat} (hi : i < l.length) :
    ∃ b o, A = some ⟨b, o, none⟩ ∧ b < w.heap.size ∧ w.cell? ⟨b, o + i * 4, none⟩ = some (.int .i64 l[i].k) ∧ w.cell? ⟨b, o + i * 4 + 1, none⟩ = some (.string ⟨l[i].t.toArray⟩) ∧ w.cell? ⟨b, o + i * 4 + 2, none⟩ = some (.int .i64 l[i].i) ∧ w.cell? ⟨b, o + i * 4 + 3, none⟩ = some (.int .i64 l[i].a) := by
  obtain ⟨b, o, cs, hA, hb, hr, _, hc⟩ := (listT l).at_ h (by decide) hi
  subst hr
  exact ⟨b, o, hA, hb, hc 0 _ rfl, hc 1 _ rfl, hc 2 _ rfl, hc 3 _ rfl⟩
theorem infoTk : (Tryd.prog.info? 33).map (fun i => (i.zero, i.size, i.bytes)) = some (some (.agg #[.int .i64 0, .string ⟨#[]⟩, .int .i64 0, .int .i64 0]), 4, 40) := by kernel_rfl
theorem tkL_one (x : Tk) : ∀ u ∈ tkL x, u.oneCell' = true := by
  intro u hu
  simp only [tkL, List.mem_cons, List.not_mem_nil, or_false] at hu
  rcases hu with rfl | rfl | rfl | rfl <;> rfl
def tkOf (o : To) : Tk := ⟨o.k, o.t, o.i, o.at'⟩
/-- The tokens of a text from a place on, no more than so many, and the error. -/
def allG (l : List UInt8) : Nat → Nat → List Tk × Int
  | 0, _ => ([], 4)
  | n + 1, a => if (oneT l a).e = 0 then (if (oneT l a).k = 0 then ([tkOf (oneT l a)], 0) else (if (allG l n (oneT l a).next).2 = 0 then (tkOf (oneT l a) :: (allG l n (oneT l a).next).1, 0) else ([], (allG l n (oneT l a).next).2))) else ([], (oneT l a).e)
def apT (L : List Tk) (r : List Tk × Int) : List Tk × Int := if r.2 = 0 then (L ++ r.1, 0) else ([], r.2)
theorem apT_nil (r : List Tk × Int) (h : r.2 = 0 ∨ r.1 = []) : apT [] r = r := by
  obtain ⟨a, b⟩ := r
  unfold apT
  split
  · rename_i hb
    simp only at hb
    rw [hb]
    rfl
  · rename_i hb
    rcases h with h | h
    · exact absurd h hb
    · simp only at h
      rw [h]
theorem allG_e (l : List UInt8) : ∀ (n a : Nat), (allG l n a).2 = 0 ∨ (allG l n a).1 = []
  | 0, _ => Or.inr rfl
  | n + 1, a => by
    rw [allG]
    split
    · split
      · exact Or.inl rfl
      · split
        · exact Or.inl rfl
        · exact Or.inr rfl
    · exact Or.inr rfl
theorem allG_err {l : List UInt8} {n a : Nat} (h : ¬ (oneT l a).e = 0) : allG l (n + 1) a = ([], (oneT l a).e) := by rw [allG, if_neg h]
theorem allG_end {l : List UInt8} {n a : Nat} (h : (oneT l a).e = 0) (hk : (oneT l a).k = 0) : allG l (n + 1) a = ([tkOf (oneT l a)], 0) := by rw [allG, if_pos h, if_pos hk]
theorem allG_next {l : List UInt8} {n a : Nat} (h : (oneT l a).e = 0) (hk : ¬ (oneT l a).k = 0) (L : List Tk) : apT L (allG l (n + 1) a) = apT (L ++ [tkOf (oneT l a)]) (allG l n (oneT l a).next) := by
  rw [allG, if_pos h, if_neg hk]
  generalize allG l n (oneT l a).next = r
  obtain ⟨x, y⟩ := r
  simp only
  by_cases hy : y = 0
  · subst hy
    simp [apT]
  · rw [if_neg hy]
    simp [apT, hy]
def allP (l : List UInt8) : List Tk × Int := allG l 1000 0
/-- Tokens are handed back, and the error. -/
def AllF (w : World) (r : List Tk × Int) (e : Ending) (w' : World) : Prop := ∃ A c, e = .returned (.tuple #[.slice A r.1.length c, .int .i64 r.2]) ∧ Grew w w' ∧ Row w' A (tksL r.1)
theorem AllF.err {w w' : World} {e : Int} (g : Grew w w') : AllF w ([], e) (.returned (.tuple #[.slice none 0 0, .int .i64 e])) w' := ⟨none, 0, rfl, g, Or.inl rfl⟩
/-- What has been gathered, and where one is. -/
structure GatK (s : ByteArray) (w : World) (j p : Nat) (A : Option Addr) (c : Nat) (L : List Tk) (wr : World) : Prop where
  len : L.length = j
  few : j ≤ 1000
  own : wr.ownsRow w.heap.size 33 4 (.slice A j c) j (tksL L)
  grew : Grew w wr
  says : allP (bl s) = apT L (allG (bl s) (1000 - j) p)
theorem own_thus7 {w w' : World} {base : Nat} {e : TypeId} {size n : Nat} {v : Value} {xs : List Value} (h : w.ownsRow base e size v n xs) (g : Grew w w') : w'.ownsRow base e size v n xs := by
  obtain ⟨x, rfl⟩ := g
  exact own_more h x
def lenOf : Value → Nat
  | .slice _ n _ => n
  | _ => 0
def AllAt (s : ByteArray) (w : World) (v q : Value) (wr : World) : Prop := ∃ (j p : Nat) (A : Option Addr) (c : Nat) (L : List Tk), v = .slice A j c ∧ q = .int .i64 p ∧  GatK s w j p A c L wr
set_option maxHeartbeats 2000000 in
set_option maxRecDepth 100000 in
theorem all7_any (s : ByteArray) (hs : s.size ≤ 1000000) (w : World) (hw : MaxW w) : Calls Tryd.prog 8 #[.string s] w (AllF w (allP (bl s))) := by
  have HOne : Hid (∀ (p : Nat) W, Grew w W → Gives Tryd.prog 12 #[.string s, .int .i64 (p : Int)] W (toV (oneT (bl s) (p : Int)))) := Lib.hid fun p W hW => one7_any s p hs W (hw.grew hW)
  obtain ⟨F, hF⟩ : ∃ F, AllF w (allP (bl s)) = F := ⟨_, rfl⟩
  have HErr : Hid (∀ e W, Grew w W → allP (bl s) = ([], e) → F (.returned (.tuple #[.slice none 0 0, .int .i64 e])) W) := Lib.hid fun e W hW h => by rw [← hF, h]; exact AllF.err hW
  have HEnd : Hid (∀ L A n c W, Grew w W → L.length = n → allP (bl s) = (L, 0) → Row W A (tksL L) → F (.returned (.tuple #[.slice A n c, .int .i64 0])) W) := Lib.hid fun L A n c W hW hn h hr => by rw [← hF, h]; exact ⟨A, c, by rw [← hn], hW, hr⟩
  rw [hF]
  clear hF hw
  go_enter Tryd.func8, Tryd.ntmps8
  go_wp2
  go_loopw [4, 5] (fun v q wr => AllAt s w v q wr) (fun v _ _ => 1000 - lenOf v)
  case atStart => exact ⟨0, 0, none, 0, [], rfl, rfl, ⟨rfl, by omega, own_none _ _ _ _, Grew.refl w, (apT_nil _ (allG_e _ _ _)).symm⟩⟩
  case round =>
    obtain ⟨j, p, A, c, L, rfl, rfl, hk⟩ := hrel
    have HK := Lib.hid hk
    have hj := hk.few
    clear hk
    by_cases hjj : j < 1000
    · have HO := HOne.out p wr HK.out.grew
      obtain ⟨o, ho⟩ : ∃ o, oneT (bl s) (p : Int) = o := ⟨_, rfl⟩
      have HOe := Lib.hid ho
      rw [ho] at HO
      have HO1 := Lib.hid HO
      clear HO ho
      unfold toV at HO1
      obtain ⟨m, hm⟩ : ∃ m, 1000 - j = m + 1 := ⟨999 - j, by omega⟩
      have HM := Lib.hid hm
      clear hm
      have hje : ((j : Int) == 1000) = false := by rw [beq_eq_false_iff_ne]; omega
      go_upto_region 6 with (go_at_call 12; (with_reducible refine HO1.out.grows.mono ?_); rintro e w2 ⟨rfl, hg2⟩; have HG2 := Lib.hid hg2; clear hg2)
      obtain ⟨W5, hW5⟩ : ∃ W5, W5 = w2.alloc (.cells #[.int .i64 o.k, .string ⟨o.t.toArray⟩, .int .i64 o.i, .int .i64 o.at'] 33) := ⟨_, rfl⟩
      have HB5 : Hid (Blok W5 w2.heap.size 33 #[.int .i64 o.k, .string ⟨o.t.toArray⟩, .int .i64 o.i, .int .i64 o.at']) := Lib.hid (by rw [hW5]; exact Blok.new _ _ _ _ rfl)
      have HG5 : Hid (Grew wr W5) := Lib.hid (by rw [hW5]; exact HG2.out.alloc _)
      have hlt5 : wr.heap.size ≤ w2.heap.size := HG2.out.size
      rw [← hW5]
      clear hW5 HG2 HO1 HOne
      generalize w2.heap.size = g5 at *
      obtain ⟨z0, z1, z2, z3, z4, z5, z6, z7, z8⟩ := tk_in HB5.out
      by_cases he : o.e = 0
      · have he' : (o.e != 0) = false := by rw [he]; rfl
        have hbw : ∀ k, (Value.slice A j c).ownBlock = some k → k < wr.heap.size := own_lt HK.out.own
        have HOw : Hid (W5.ownsRow w.heap.size 33 4 (.slice A j c) j (tksL L)) := Lib.hid (own_thus7 HK.out.own HG5.out)
        have HGw : Hid (Grew w W5) := Lib.hid (HK.out.grew.trans HG5.out)
        have HEz := Lib.hid he
        clear he
        go_upto_region 9 with (at_builtin; refine wpList_apps rfl (.tmp 22) (.tmp 24) 23 33 4 rfl w (.agg #[.int .i64 0, .string ⟨#[]⟩, .int .i64 0, .int .i64 0]) 40 Tryd.underlying23 infoTk rfl (by decide) (by decide) _ j (tksL L) rfl (own_alloc HOw.out _) _ 1 1 (tkL (tkOf o)) rfl rfl (row_new _ _ _ #[.int .i64 o.k, .string ⟨o.t.toArray⟩, .int .i64 o.i, .int .i64 o.at'] rfl) (tkL_one _) (by omega) (HGw.out.alloc _) ?_; intro A' c' w' ho' hr' hg' hgb _; have HO' := Lib.hid ho'; have HR' := Lib.hid hr'; have HG' := Lib.hid hg'; have HB' : Hid (Blok w' g5 33 #[.int .i64 o.k, .string ⟨o.t.toArray⟩, .int .i64 o.i, .int .i64 o.at']) := Lib.hid ((HB5.out.alloc _).grown hgb (fun e => by have := hbw g5 e; omega)); clear ho' hr' hg' hgb z0 z1 z2 z3 z4 z5 z6 z7 z8; obtain ⟨z0, z1, z2, z3, z4, z5, z6, z7, z8⟩ := tk_in HB'.out)
        by_cases hk0 : o.k = 0
        · have hk' : (o.k == 0) = true := by rw [hk0]; rfl
          have HF : Hid (F (.returned (.tuple #[.slice A' (j + 1) c', .int .i64 0])) w') := Lib.hid (HEnd.out (L ++ [tkOf o]) A' (j + 1) c' w' HG'.out (by simp [HK.out.len]) (by rw [HK.out.says, HM.out, allG_end (by rw [HOe.out]; exact HEz.out) (by rw [HOe.out]; exact hk0), HOe.out]; rfl) (by rw [tksL_snoc]; exact HR'.out))
          clear HErr HEnd HK HOe HM HG' HR' HO' HB' HB5
          clear hk0
          go_wp2
          first | exact HF.out | (go_ret2; exact HF.out)
        · have hk' : (o.k == 0) = false := by rw [beq_eq_false_iff_ne]; exact hk0
          have HN : Hid (GatK s w (j + 1) o.next A' c' (L ++ [tkOf o]) w') := Lib.hid ⟨by simp [HK.out.len], by omega, by rw [tksL_snoc]; exact HO'.out, HG'.out, by
            rw [HK.out.says, HM.out, allG_next (by rw [HOe.out]; exact HEz.out) (by rw [HOe.out]; exact hk0) L, HOe.out, show 1000 - (j + 1) = m by have := HM.out; omega]⟩
          clear HErr HEnd HK HOe HM HG' HR' HO' HB' HB5 hk0
          go_wp2
          exact ⟨⟨j + 1, o.next, A', c', L ++ [tkOf o], rfl, rfl, HN.out⟩, by simp only [lenOf]; omega⟩
      · have he' : (o.e != 0) = true := by simpa using he
        have HF : Hid (F (.returned (.tuple #[.slice none 0 0, .int .i64 o.e])) W5) := Lib.hid (HErr.out o.e W5 (HK.out.grew.trans HG5.out) (by
          rw [HK.out.says, HM.out, allG_err (by rw [HOe.out]; exact he), HOe.out]
          unfold apT
          rw [if_neg (by simpa using he)]))
        clear HErr HEnd HK HOe HM he
        go_wp2
        first | exact HF.out | (go_ret2; exact HF.out)
    · obtain rfl : j = 1000 := by omega
      have HF : Hid (F (.returned (.tuple #[.slice none 0 0, .int .i64 4])) wr) := Lib.hid (HErr.out 4 wr HK.out.grew (by rw [HK.out.says]; rfl))
      clear HErr HEnd HK HOne
      go_wp2
      first | exact HF.out | (go_ret2; exact HF.out)

def RAllAt7 (s : ByteArray) (w : World) (v q i : Value) (wr : World) : Prop := ∃ (j p : Nat) (A : Option Addr) (c : Nat) (L : List Tk), v = .slice A j c ∧ q = .int .i64 p ∧ i = .int .i64 j ∧ GatK s w j p A c L wr
set_option maxHeartbeats 2000000 in
set_option maxRecDepth 100000 in
theorem rall7_any (s : ByteArray) (hs : s.size ≤ 1000000) (w : World) : Calls Tryd.prog 9 #[.string s] w (AllF w (allP (bl s))) := by
  have HOne : Hid (∀ (p : Nat) W, Grew w W → Gives Tryd.prog 13 #[.string s, .int .i64 (p : Int)] W (toV (oneT (bl s) (p : Int)))) := Lib.hid fun p W hW => rone7_any s p hs W
  obtain ⟨F, hF⟩ : ∃ F, AllF w (allP (bl s)) = F := ⟨_, rfl⟩
  have HErr : Hid (∀ e W, Grew w W → allP (bl s) = ([], e) → F (.returned (.tuple #[.slice none 0 0, .int .i64 e])) W) := Lib.hid fun e W hW h => by rw [← hF, h]; exact AllF.err hW
  have HEnd : Hid (∀ L A n c W, Grew w W → L.length = n → allP (bl s) = (L, 0) → Row W A (tksL L) → F (.returned (.tuple #[.slice A n c, .int .i64 0])) W) := Lib.hid fun L A n c W hW hn h hr => by rw [← hF, h]; exact ⟨A, c, by rw [← hn], hW, hr⟩
  rw [hF]
  clear hF
  go_enter Tryd.func9, Tryd.ntmps9
  go_wp2
  go_loopw [4, 5, 6] (fun v q i wr => RAllAt7 s w v q i wr) (fun _ _ i _ => 1000 - (intOf i).toNat)
  case atStart => exact ⟨0, 0, none, 0, [], rfl, rfl, rfl, ⟨rfl, by omega, own_none _ _ _ _, Grew.refl w, (apT_nil _ (allG_e _ _ _)).symm⟩⟩
  case round =>
    obtain ⟨j, p, A, c, L, rfl, rfl, rfl, hk⟩ := hrel
    have HK := Lib.hid hk
    have hj := hk.few
    clear hk
    by_cases hjj : j < 1000
    · have HO := HOne.out p wr HK.out.grew
      obtain ⟨o, ho⟩ : ∃ o, oneT (bl s) (p : Int) = o := ⟨_, rfl⟩
      have HOe := Lib.hid ho
      rw [ho] at HO
      have HO1 := Lib.hid HO
      clear HO ho
      unfold toV at HO1
      obtain ⟨m, hm⟩ : ∃ m, 1000 - j = m + 1 := ⟨999 - j, by omega⟩
      have HM := Lib.hid hm
      clear hm

      go_upto_region 7 with (go_at_call 13; (with_reducible refine HO1.out.grows.mono ?_); rintro e w2 ⟨rfl, hg2⟩; have HG2 := Lib.hid hg2; clear hg2)
      obtain ⟨W5, hW5⟩ : ∃ W5, W5 = w2.alloc (.cells #[.int .i64 o.k, .string ⟨o.t.toArray⟩, .int .i64 o.i, .int .i64 o.at'] 33) := ⟨_, rfl⟩
      have HB5 : Hid (Blok W5 w2.heap.size 33 #[.int .i64 o.k, .string ⟨o.t.toArray⟩, .int .i64 o.i, .int .i64 o.at']) := Lib.hid (by rw [hW5]; exact Blok.new _ _ _ _ rfl)
      have HG5 : Hid (Grew wr W5) := Lib.hid (by rw [hW5]; exact HG2.out.alloc _)
      have hlt5 : wr.heap.size ≤ w2.heap.size := HG2.out.size
      rw [← hW5]
      clear hW5 HG2 HO1 HOne
      generalize w2.heap.size = g5 at *
      obtain ⟨z0, z1, z2, z3, z4, z5, z6, z7, z8⟩ := tk_in HB5.out
      by_cases he : o.e = 0
      · have he' : (o.e != 0) = false := by rw [he]; rfl
        have hbw : ∀ k, (Value.slice A j c).ownBlock = some k → k < wr.heap.size := own_lt HK.out.own
        have HOw : Hid (W5.ownsRow w.heap.size 33 4 (.slice A j c) j (tksL L)) := Lib.hid (own_thus7 HK.out.own HG5.out)
        have HGw : Hid (Grew w W5) := Lib.hid (HK.out.grew.trans HG5.out)
        have HEz := Lib.hid he
        clear he
        go_upto_region 10 with (at_builtin; refine wpList_apps rfl (.tmp 24) (.tmp 26) 23 33 4 rfl w (.agg #[.int .i64 0, .string ⟨#[]⟩, .int .i64 0, .int .i64 0]) 40 Tryd.underlying23 infoTk rfl (by decide) (by decide) _ j (tksL L) rfl (own_alloc HOw.out _) _ 1 1 (tkL (tkOf o)) rfl rfl (row_new _ _ _ #[.int .i64 o.k, .string ⟨o.t.toArray⟩, .int .i64 o.i, .int .i64 o.at'] rfl) (tkL_one _) (by omega) (HGw.out.alloc _) ?_; intro A' c' w' ho' hr' hg' hgb _; have HO' := Lib.hid ho'; have HR' := Lib.hid hr'; have HG' := Lib.hid hg'; have HB' : Hid (Blok w' g5 33 #[.int .i64 o.k, .string ⟨o.t.toArray⟩, .int .i64 o.i, .int .i64 o.at']) := Lib.hid ((HB5.out.alloc _).grown hgb (fun e => by have := hbw g5 e; omega)); clear ho' hr' hg' hgb z0 z1 z2 z3 z4 z5 z6 z7 z8; obtain ⟨z0, z1, z2, z3, z4, z5, z6, z7, z8⟩ := tk_in HB'.out)
        by_cases hk0 : o.k = 0
        · have hk' : (o.k == 0) = true := by rw [hk0]; rfl
          have HF : Hid (F (.returned (.tuple #[.slice A' (j + 1) c', .int .i64 0])) w') := Lib.hid (HEnd.out (L ++ [tkOf o]) A' (j + 1) c' w' HG'.out (by simp [HK.out.len]) (by rw [HK.out.says, HM.out, allG_end (by rw [HOe.out]; exact HEz.out) (by rw [HOe.out]; exact hk0), HOe.out]; rfl) (by rw [tksL_snoc]; exact HR'.out))
          clear HErr HEnd HK HOe HM HG' HR' HO' HB' HB5
          clear hk0
          go_wp2
          first | exact HF.out | (go_ret2; exact HF.out)
        · have hk' : (o.k == 0) = false := by rw [beq_eq_false_iff_ne]; exact hk0
          have HN : Hid (GatK s w (j + 1) o.next A' c' (L ++ [tkOf o]) w') := Lib.hid ⟨by simp [HK.out.len], by omega, by rw [tksL_snoc]; exact HO'.out, HG'.out, by
            rw [HK.out.says, HM.out, allG_next (by rw [HOe.out]; exact HEz.out) (by rw [HOe.out]; exact hk0) L, HOe.out, show 1000 - (j + 1) = m by have := HM.out; omega]⟩
          clear HErr HEnd HK HOe HM HG' HR' HO' HB' HB5 hk0
          go_wp2
          exact ⟨⟨j + 1, o.next, A', c', L ++ [tkOf o], rfl, rfl, by go_num, HN.out⟩, by simp only [intOf]; omega⟩
      · have he' : (o.e != 0) = true := by simpa using he
        have HF : Hid (F (.returned (.tuple #[.slice none 0 0, .int .i64 o.e])) W5) := Lib.hid (HErr.out o.e W5 (HK.out.grew.trans HG5.out) (by
          rw [HK.out.says, HM.out, allG_err (by rw [HOe.out]; exact he), HOe.out]
          unfold apT
          rw [if_neg (by simpa using he)]))
        clear HErr HEnd HK HOe HM he
        go_wp2
        first | exact HF.out | (go_ret2; exact HF.out)
    · obtain rfl : j = 1000 := by omega
      have HF : Hid (F (.returned (.tuple #[.slice none 0 0, .int .i64 4])) wr) := Lib.hid (HErr.out 4 wr HK.out.grew (by rw [HK.out.says]; rfl))
      clear HErr HEnd HK HOne
      go_wp2
      first | exact HF.out | (go_ret2; exact HF.out)
end Go.Proofs.YtlmohihodhdcfaaDoor
