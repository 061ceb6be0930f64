/- Layer 4: a row's key, by the program. Condition: no more than a thousand values of no more than a thousand letters. -/
import Derived.Test.YtpcbnmpfiepaeaaDoorBld
import Derived.Test.YtpcbnmpfiepaeaaDoorHash2W
import Derived.Test.YtpcbnmpfiepaeaaDoorTabKit
import Derived.Test.YtpcbnmpfiepaeaaDoorApp2
import Derived.Lib.ItoaLen
import Derived.Lib.AppendIntMem
namespace Go.Proofs.YtpcbnmpfiepaeaaDoor
open Go.RowKit
attribute [local go_sem] more_cell more_frozen more_more more_setCell more_of_drew more_of_drewN lt_more le_more past_cell past_cell2 past_frozen past_frozen2 past_setCell past_setCell2 mid_cell mid_frozen mid_setCell
attribute [local go_sem ↓] Go.wp_at_zero Go.wp_at_succ

/-- A value's key, with its length ahead. -/
def keyV (v : Vl) : List UInt8 := Lib.itoa ((keyT v.k v.i v.s).size : Nat) ++ (58 :: (keyT v.k v.i v.s).data.toList)
def keyRowL (l : List Vl) : List UInt8 := (l.map keyV).flatten
theorem keyRowL_snoc {l : List Vl} {j : Nat} (hj : j < l.length) : keyRowL (l.take (j + 1)) = keyRowL (l.take j) ++ keyV l[j] := by
  unfold keyRowL
  rw [List.take_succ_eq_append_getElem hj, List.map_append, List.flatten_append]
  simp
theorem keyV_len {v : Vl} (h : v.s.size ≤ 3000) : (keyV v).length ≤ 100022 := by
  have h1 := keyT_size v.k v.i v.s h
  have h2 := Lib.itoa_length_le ((keyT v.k v.i v.s).size : Nat) (by omega) (by omega)
  unfold keyV
  have h3 : (keyT v.k v.i v.s).data.toList.length = (keyT v.k v.i v.s).size := by rw [Array.length_toList]; rfl
  rw [List.length_append, List.length_cons, h3]
  omega
theorem keyRowL_len {l : List Vl} (h : ∀ v ∈ l, v.s.size ≤ 3000) : ∀ j, j ≤ l.length → (keyRowL (l.take j)).length ≤ j * 100022 := by
  intro j
  induction j with
  | zero => intro _; simp [keyRowL]
  | succ j ih =>
    intro hj
    rw [keyRowL_snoc (by omega), List.length_append]
    have h1 := ih (by omega)
    have h2 := keyV_len (h l[j] (List.getElem_mem (by omega)))
    omega
theorem tab_grew {w W : World} {name : String} {k : IntKind} {zs : List Int} (h : Lib.TabIs Tryd.prog w name k zs) (g : Grew w W) : Lib.TabIs Tryd.prog W name k zs := by
  unfold Lib.TabIs World.var? at h ⊢
  rw [Option.bind_eq_some_iff] at h ⊢
  obtain ⟨a, ha, hm⟩ := h
  refine ⟨a, ha, ?_⟩
  have hlt : a < w.heap.size := by
    rcases Nat.lt_or_ge a w.heap.size with h1 | h1
    · exact h1
    · rw [Array.getElem?_eq_none h1] at hm
      cases hm
  rw [g.below.block a hlt]
  exact hm
theorem own_growK {w w' : World} {base : Nat} {e : TypeId} {size n : Nat} {v : Value} {xs : List Value} (h : w.ownsRow base e size v n xs) (g : Grew w w') : w'.ownsRow base e size v n xs := by
  obtain ⟨x, rfl⟩ := g
  exact own_more h x
theorem isb_grew {T e : TypeId} {B b : Nat} {bs : List Value} {w W : World} (h : Lib.IsBuilder T e B b bs w) (g : Grew w W) : Lib.IsBuilder T e B b bs W := by
  have hh : ∀ p, Lib.BuilderAt T e B b p bs w → Lib.BuilderAt T e B b p bs W := fun p hp => by
    have hlt := hp.lt
    obtain ⟨hB, v, hb, ho, hne⟩ := hp
    exact ⟨hB, v, (g.below.block b hlt).trans hb, own_growK ho g, hne⟩
  rcases h with h | h
  · exact Or.inl (hh _ h)
  · exact Or.inr (hh _ h)
def KyAt (w : World) (l : List Vl) (b : Nat) (x : Value) (wr : World) : Prop := ∃ j : Nat, j ≤ l.length ∧ x = .int .i64 (j : Int) ∧ Grew w wr ∧ Lib.IsBuilder 85 5 w.heap.size b (Lib.byteCells (keyRowL (l.take j))) wr
set_option maxHeartbeats 2000000 in
set_option maxRecDepth 100000 in
theorem rkeyrow_any (l : List Vl) (hl : l.length ≤ 1000) (hs : ∀ v ∈ l, v.s.size ≤ 3000) (A : Option Addr) (k : Nat) (w : World) (h : VlsR (PRow w) A l) (htab : Lib.TabIs Tryd.prog w "internal/strconv.uint64pow10" .u64 Lib.pow10Tab) :
    Gives Tryd.prog 35 #[.slice A l.length k] w (.string ⟨(keyRowL l).toArray⟩) := by
  have RA := Lib.hid h
  have HT := Lib.hid htab
  have HS := Lib.hid hs
  have HLn := Lib.hid (keyRowL_len hs)
  have HB0 : Hid (Lib.IsBuilder 85 5 w.heap.size w.heap.size (Lib.byteCells (keyRowL (l.take 0))) (w.alloc (.cells #[.pointer none, .slice none 0 0] 85))) := Lib.hid (Or.inl ⟨Nat.le_refl _, .slice none 0 0, heap_alloc_new w _, by simpa [keyRowL, Lib.byteCells] using own_none _ _ _ _, by simp [Value.ownBlock]⟩)
  clear h htab hs
  unfold Gives
  go_enter Tryd.func35, Tryd.ntmps35
  go_wp2
  go_loopw [9] (fun x wr => KyAt w l w.heap.size x wr) (fun x _ => l.length - (intOf x).toNat)
  case atStart => exact ⟨0, Nat.zero_le _, rfl, (Grew.refl w).alloc _, HB0.out⟩
  case round =>
    obtain ⟨j, hj, rfl, hg, hb⟩ := hrel
    have HG := Lib.hid hg
    have HB := Lib.hid hb
    clear hg hb HB0
    by_cases hlt : j < l.length
    · have e0 : decide ((j : Int) < (l.length : Int)) = true := decide_eq_true (by omega)
      have hjl : (j : Int) < (l.length : Int) := by omega
      obtain ⟨b, o, rfl, hb, c0, c1, c2⟩ := vlsR_at (RA.out.grew HG.out) hlt
      have hsz := HS.out _ (List.getElem_mem hlt)
      have HStep := Lib.hid (keyRowL_snoc hlt)
      have HL1 := HLn.out j hj
      have HKs := keyT_size l[j].k l[j].i l[j].s hsz
      have HKey : Hid (∀ W, Gives Tryd.prog 52 #[.agg #[.int .i64 l[j].k, .int .i64 l[j].i, .string l[j].s]] W (.string (keyT l[j].k l[j].i l[j].s))) := Lib.hid fun W => key_any _ _ _ hsz W
      have HVl : Hid (keyV l[j] = Lib.itoa ((keyT l[j].k l[j].i l[j].s).size : Nat) ++ (58 :: (keyT l[j].k l[j].i l[j].s).data.toList)) := Lib.hid rfl
      have HIl := Lib.itoa_length_le ((keyT l[j].k l[j].i l[j].s).size : Nat) (by omega) (by omega)
      generalize keyT l[j].k l[j].i l[j].s = kt at *
      generalize l[j].k = vk at *
      generalize l[j].i = vi at *
      generalize l[j].s = vs at *
      generalize keyV l[j] = kv at *
      generalize keyRowL (l.take j) = done at *
      have hws := HG.out.size
      have hsi : (⟨(Lib.itoa (kt.size : Nat)).toArray⟩ : ByteArray).size = (Lib.itoa (kt.size : Nat)).length := rfl
      have hdl : (Lib.byteCells done).length = done.length := by simp [Lib.byteCells]
      have hjb : j * 100022 ≤ 100022000 := by omega
      have HIt : Hid (∀ W, Grew wr W → Calls Tryd.prog 54 #[.int .i64 (kt.size : Nat)] W fun e w' => e = .returned (.string ⟨(Lib.itoa (kt.size : Nat)).toArray⟩) ∧ Grew W w') := Lib.hid fun W hW => by
        refine (Tryd.strconv_Itoa (kt.size : Nat) (by omega) (by omega) W (tab_grew HT.out (HG.out.trans hW))).mono ?_
        rintro e w' ⟨rfl, q, os, rfl⟩
        exact ⟨rfl, Grew.of_below (Lib.below_grow _ W (Nat.le_refl _) q os)⟩
      have HW1 : Hid (∀ W, Grew wr W → Calls Tryd.prog 53 #[.pointer (some ⟨w.heap.size, 0, none⟩), .string ⟨(Lib.itoa (kt.size : Nat)).toArray⟩] W fun e w' => (∃ v, e = .returned v) ∧ Grew w w' ∧ Lib.IsBuilder 85 5 w.heap.size w.heap.size (Lib.byteCells (done ++ Lib.itoa (kt.size : Nat))) w') := Lib.hid fun W hW => by
        refine (writeString_any w.heap.size w.heap.size _ ⟨(Lib.itoa (kt.size : Nat)).toArray⟩ W (isb_grew HB.out hW) (by omega) (HG.out.trans hW).size).mono ?_
        rintro e w' ⟨rfl, h1, h2⟩
        exact ⟨⟨_, rfl⟩, Grew.of_below ((HG.out.trans hW).below.trans h2), Or.inr (by simpa [Lib.byteCells, Lib.strCells] using h1)⟩
      have HW2 : Hid (∀ W, Grew w W → Lib.IsBuilder 85 5 w.heap.size w.heap.size (Lib.byteCells (done ++ Lib.itoa (kt.size : Nat))) W → Calls Tryd.prog 55 #[.pointer (some ⟨w.heap.size, 0, none⟩), .int .u8 58] W fun e w' => (∃ v, e = .returned v) ∧ Grew w w' ∧ Lib.IsBuilder 85 5 w.heap.size w.heap.size (Lib.byteCells (done ++ Lib.itoa (kt.size : Nat) ++ [58])) w') := Lib.hid fun W hW hb => by
        refine (writeByte_any w.heap.size w.heap.size _ 58 W hb (by simp [Lib.byteCells]; omega) hW.size).mono ?_
        rintro e w' ⟨rfl, h1, h2⟩
        exact ⟨⟨_, rfl⟩, Grew.of_below (hW.below.trans h2), Or.inr (by simpa [Lib.byteCells] using h1)⟩
      have HW3 : Hid (∀ W, Grew w W → Lib.IsBuilder 85 5 w.heap.size w.heap.size (Lib.byteCells (done ++ Lib.itoa (kt.size : Nat) ++ [58])) W → Calls Tryd.prog 53 #[.pointer (some ⟨w.heap.size, 0, none⟩), .string kt] W fun e w' => (∃ v, e = .returned v) ∧ Grew w w' ∧ Lib.IsBuilder 85 5 w.heap.size w.heap.size (Lib.byteCells (keyRowL (l.take (j + 1)))) w') := Lib.hid fun W hW hb => by
        refine (writeString_any w.heap.size w.heap.size _ kt W hb (by simp [Lib.byteCells]; omega) hW.size).mono ?_
        rintro e w' ⟨rfl, h1, h2⟩
        refine ⟨⟨_, rfl⟩, Grew.of_below (hW.below.trans h2), Or.inr ?_⟩
        rw [HStep.out, HVl.out]
        simpa [Lib.byteCells, Lib.strCells] using h1
      clear HLn HStep HVl HIl HKs HL1 hsi hdl hjb HB
      go_wp2_with (first | (go_at_call 52; (with_reducible refine (HKey.out _).grows.mono ?_); rintro e w3 ⟨rfl, hg3⟩; have HG3 := Lib.hid (show Grew wr w3 from ((Grew.refl wr).alloc _).trans hg3); clear hg3) | (go_at_call 54; (with_reducible refine (HIt.out _ HG3.out).mono ?_); rintro e w4 ⟨rfl, hg4⟩; have HG4 := Lib.hid (HG3.out.trans hg4); clear hg4) | (go_at_call 53; (with_reducible refine (HW1.out _ HG4.out).mono ?_); rintro e w5 ⟨⟨v5, rfl⟩, hg5, hb5⟩; have HG5 := Lib.hid hg5; have HB5 := Lib.hid hb5; clear hg5 hb5) | (go_at_call 55; (with_reducible refine (HW2.out _ HG5.out HB5.out).mono ?_); rintro e w6 ⟨⟨v6, rfl⟩, hg6, hb6⟩; have HG6 := Lib.hid hg6; have HB6 := Lib.hid hb6; clear hg6 hb6) | (go_at_call 53; (with_reducible refine (HW3.out _ HG6.out HB6.out).mono ?_); rintro e w7 ⟨⟨v7, rfl⟩, hg7, hb7⟩; have HG7 := Lib.hid hg7; have HB7 := Lib.hid hb7; clear hg7 hb7))
      exact ⟨⟨j + 1, by omega, by go_num, HG7.out, HB7.out⟩, by simp only [intOf]; omega⟩
    · obtain rfl : j = l.length := by omega
      have e0 : decide ((l.length : Int) < (l.length : Int)) = false := decide_eq_false (by omega)
      rw [List.take_length] at HB
      have HSt := Lib.hid (Tryd.Builder_String_any w.heap.size w.heap.size (keyRowL l) wr HB.out HG.out.size)
      clear HB
      go_wp2_with (go_at_call 56; (with_reducible refine HSt.out.mono ?_); rintro e w8 ⟨rfl, hb8⟩; have HG8 := Lib.hid (show Grew w w8 from Grew.of_below (HG.out.below.trans hb8)); clear hb8)
      go_ret
      exact ⟨rfl, HG8.out⟩
end Go.Proofs.YtpcbnmpfiepaeaaDoor
