/- Layer 39: the document's own reading of numbers. -/
import Derived.Test.YtcokhgomibimcaaCode10
import Derived.Test.YtcokhgomibimcaaCodeMath6
namespace Go.Proofs.Ytcokhgomibimcaa
open Go.RowKit
attribute [local go_sem] more_cell more_frozen more_more more_setCell more_of_drew more_of_drewN lt_more le_more past_cell past_cell2 past_frozen past_frozen2 past_setCell past_setCell2 mid_cell mid_frozen mid_setCell
attribute [local go_sem ↓] Go.wp_at_zero Go.wp_at_succ

theorem rgetint_any (l : List Nat) (A : Option Addr) (c : Nat) (n : Int) (hc : l.length ≤ c) (hl : l.length ≤ 1000000) (hx : bytesOk l) (w : World) (hr : Row w A (bV l)) :
    Calls Try.prog 23 #[.slice A l.length c, .int .i64 n] w (GetIT w (getI l n)) := by
  by_cases h : n < 0 ∨ l.length ≤ n
  · exact getint_r1 l A c n h w
  · obtain ⟨p, rfl⟩ : ∃ p : Nat, n = p := ⟨n.toNat, by omega⟩
    exact getint_r2 l A c p hc hl hx (by omega) w hr
set_option maxRecDepth 100000 in
theorem rcount_any (l : List Nat) (A : Option Addr) (c : Nat) (n : Int) (hc : l.length ≤ c) (hl : l.length ≤ 1000000) (hx : bytesOk l) (w : World) (hr : Row w A (bV l)) :
    Calls Try.prog 101 #[.slice A l.length c, .int .i64 n] w (GetIT w (rcnt l n)) := by
  have HP := Lib.hid (rgetint_any l A c n hc hl hx w hr)
  have HC : Hid (rcnt l n = if (getI l n).2.2 = false ∨ (getI l n).1 < 0 ∨ (l.length : Int) - (getI l n).2.1 < (getI l n).1 then (0, 0, false) else getI l n) := Lib.hid rfl
  have hb : (getI l n = (0, 0, false)) ∨ ∃ v, ∃ q : Nat, q ≤ l.length ∧ getI l n = (v, (q : Int), true) ∧ small64 v := by
    rcases getI_any hx n with h | ⟨v, q, h1, h2, h3⟩
    · exact Or.inl h.1
    · refine Or.inr ⟨v, q, h1, h2, ?_⟩
      have h4 := numS_bd (leftS_ok hx n)
      rw [h3] at h4
      exact h4
  generalize rcnt l n = r at *
  generalize getI l n = t at *
  clear hr hx
  rcases hb with h | ⟨v, q, hq, h, hv1, hv2⟩
  · subst h
    have HR : Hid (r = (0, 0, false)) := Lib.hid (by rw [HC.out]; rfl)
    go_enter Try.func101, Try.ntmps101
    go_wp2_with fail
    refine HP.out.mono ?_
    rintro e w1 ⟨rfl, hg⟩
    have HG := Lib.hid hg
    clear hg
    go_wp2
    go_ret3
    rw [HR.out]
    exact ⟨rfl, HG.out⟩
  · subst h
    by_cases h1 : v < 0
    · have HR : Hid (r = (0, 0, false)) := Lib.hid (by rw [HC.out]; exact if_pos (Or.inr (Or.inl h1)))
      go_enter Try.func101, Try.ntmps101
      go_wp2_with fail
      refine HP.out.mono ?_
      rintro e w1 ⟨rfl, hg⟩
      have HG := Lib.hid hg
      clear hg
      go_wp2
      go_ret3
      rw [HR.out]
      exact ⟨rfl, HG.out⟩
    · by_cases h2 : (l.length : Int) - q < v
      · have HR : Hid (r = (0, 0, false)) := Lib.hid (by rw [HC.out]; exact if_pos (Or.inr (Or.inr h2)))
        go_enter Try.func101, Try.ntmps101
        go_wp2_with fail
        refine HP.out.mono ?_
        rintro e w1 ⟨rfl, hg⟩
        have HG := Lib.hid hg
        clear hg
        go_wp2
        go_ret3
        rw [HR.out]
        exact ⟨rfl, HG.out⟩
      · have HR : Hid (r = (v, (q : Int), true)) := Lib.hid (by rw [HC.out]; exact if_neg (fun h => h.elim (fun h => by cases h) (fun h => h.elim h1 h2)))
        go_enter Try.func101, Try.ntmps101
        go_wp2_with fail
        refine HP.out.mono ?_
        rintro e w1 ⟨rfl, hg⟩
        have HG := Lib.hid hg
        clear hg
        go_wp2
        go_ret3
        rw [HR.out]
        exact ⟨rfl, HG.out⟩
def RGetAt (w : World) (l : List Nat) (k p : Nat) (nx out i : Value) (wr : World) : Prop :=
  ∃ (j q : Nat) (A : Option Addr) (c : Nat) (ls : List Int), j ≤ k ∧ q ≤ l.length ∧ i = .int .i64 j ∧ nx = .int .i64 q ∧ out = .slice A j c ∧ wr.ownsRow w.heap.size 3 1 (.slice A j c) j (iV ls) ∧ numsS j (l.drop p, false) = (ls, l.drop q, false) ∧ Grew w wr
set_option maxHeartbeats 1000000 in
set_option maxRecDepth 100000 in
theorem rgetints_any (l : List Nat) (A : Option Addr) (c : Nat) (n : Int) (hc : l.length ≤ c) (hl : l.length ≤ 1000000) (hx : bytesOk l) (w : World) (hr : Row w A (bV l)) :
    Calls Try.prog 24 #[.slice A l.length c, .int .i64 n] w (GetIsT w (getIs l n)) := by
  have HP := Lib.hid (rcount_any l A c n hc hl hx w hr)
  have HGet : Hid (∀ (q : Nat) W, Grew w W → Calls Try.prog 23 #[.slice A l.length c, .int .i64 q] W (GetIT W (getI l q))) := Lib.hid fun q W hW => rgetint_any l A c q hc hl hx W (hr.grew hW)
  have HX := Lib.hid hx
  obtain ⟨r, hr0⟩ : ∃ r, getIs l n = r := ⟨_, rfl⟩
  have HR := Lib.hid hr0
  rw [hr0]
  clear hr hr0
  rcases rcnt_any hx n with ⟨h1, h2⟩ | ⟨k, p, hk, h1, h2⟩
  · have HZ : Hid (r = ([], 0, false)) := Lib.hid (by rw [← HR.out, h2])
    rw [h1] at HP
    clear h1 h2 hx
    go_enter Try.func24, Try.ntmps24
    go_wp2_with fail
    refine HP.out.mono ?_
    rintro e w1 ⟨rfl, hg⟩
    have HG := Lib.hid hg
    clear hg
    go_wp2
    go_ret3
    rw [HZ.out]
    exact ⟨none, 0, rfl, own_none _ _ _ _, HG.out⟩
  · rw [h1] at HP
    have HI := Lib.hid h2
    clear h1 h2 hx
    go_enter Try.func24, Try.ntmps24
    go_wp2_with fail
    refine HP.out.mono ?_
    rintro e w1 ⟨rfl, hg⟩
    have HG := Lib.hid hg
    clear hg
    go_wp2_with fail
    go_loopw [8, 10, 11] (fun nx out i wr => RGetAt w l k p nx out i wr) (fun _ _ i _ => k - (intOf i).toNat)
    case atStart => exact ⟨0, p, none, 0, [], Nat.zero_le _, by omega, rfl, rfl, rfl, own_none _ _ _ _, rfl, HG.out⟩
    case round =>
      obtain ⟨j, q, A1, c1, ls, hj, hq, rfl, rfl, rfl, ho, hn, hg⟩ := hrel
      have HO := Lib.hid ho
      have HN := Lib.hid hn
      have HGr := Lib.hid hg
      clear ho hn hg
      by_cases h : j < k
      · have HGI := Lib.hid (HGet.out q wr HGr.out)
        rcases getI_step HX.out hq with ⟨h3, h4⟩ | ⟨v, q2, hq2, h3, h4⟩
        · rw [h3] at HGI
          have HZ : Hid (r = ([], 0, false)) := Lib.hid (by
            rw [← HR.out]
            refine getIs_bad (j := j + 1) HI.out (by omega) ?_
            unfold numsS
            rw [HN.out]
            simp only
            rw [h4])
          clear h3 h4
          go_wp2_with (go_at_call 23; refine HGI.out.mono ?_; rintro e w2 ⟨rfl, hg2⟩; have HG2 := Lib.hid hg2; clear hg2)
          go_ret3
          rw [HZ.out]
          exact ⟨none, 0, rfl, own_none _ _ _ _, HGr.out.trans HG2.out⟩
        · rw [h3] at HGI
          have HN1 : Hid (numsS (j + 1) (l.drop p, false) = (ls ++ [v], l.drop q2, false)) := Lib.hid (by
            unfold numsS
            rw [HN.out]
            simp only
            rw [h4])
          clear h3 h4
          go_wp2_with (first | (go_at_call 23; refine HGI.out.mono ?_; rintro e w2 ⟨rfl, hg2⟩; have HG2 := Lib.hid hg2; clear hg2) | (at_builtin; refine wpList_appB rfl (.tmp 38) (.tmp 40) 23 3 1 rfl w.heap.size (.int .i64 0) 8 Try.underlying23 infoI rfl (by decide) (by decide) _ j _ rfl (own_alloc (own_grew HO.out HG2.out) _) _ 1 1 [.int .i64 v] rfl rfl (row_one _ _ _ _ rfl) (by simp; rfl) (by omega) (by have := (HGr.out.trans HG2.out).size; simp; omega) ?_; intro A4 c4 w4 ho4 hg4; have HO4 := Lib.hid ho4; have HG4 := Lib.hid hg4; clear ho4 hg4))
          have hrow : ∀ i, (Value.slice A1 j c1).ownBlock = some i → w.heap.size ≤ i := own_base HO.out
          refine ⟨⟨j + 1, q2, A4, c4, ls ++ [v], by omega, hq2, by go_num, rfl, rfl, ?_, HN1.out, ?_⟩, by simp only [intOf]; omega⟩
          · rw [← iV_snoc]
            exact HO4.out
          · exact ((HGr.out.trans HG2.out).alloc _).grown HG4.out hrow
      · obtain rfl : j = k := by omega
        have HF : Hid (GetIsT w r (.returned (.tuple #[.slice A1 j c1, .int .i64 q, .bool true])) wr) := Lib.hid (by
          have hlen := numsS_len j (l.drop p, false)
          rw [HN.out] at hlen
          rw [← HR.out, getIs_of HI.out HN.out hq]
          simp only at hlen
          refine ⟨A1, c1, by simp only [hlen], ?_, HGr.out⟩
          simp only [hlen]
          exact HO.out)
        go_wp2
        go_ret3
        exact HF.out
end Go.Proofs.Ytcokhgomibimcaa
