/- Layer 6: all classes, as the document makes them. No condition but that the row lies in memory that is there. -/
import Derived.Test.YtfdjnhnchibejaaNest
import Derived.Test.YtfdjnhnchibejaaUfCls
import Derived.Laws.MakeOwn
namespace Go.Proofs.Ytfdjnhnchibejaa
open Go.RowKit
attribute [local go_sem] more_cell more_frozen more_more more_setCell more_of_drew more_of_drewN lt_more le_more past_cell past_cell2 past_frozen past_frozen2 past_setCell past_setCell2 mid_cell mid_frozen mid_setCell
attribute [local go_sem ↓] Go.wp_at_zero Go.wp_at_succ

def R6AllAt (n : Nat) (r : Nat → Nat) (w : World) (v i : Value) (wr : World) : Prop :=
  ∃ (j : Nat) (A : Option Addr) (c : Nat) (vs : List Value), j ≤ n ∧ i = .int .i64 j ∧ v = .slice A (clsA j n r).length c ∧ Nest wr w.heap.size w.heap.size A c vs (clsA j n r) ∧ Grew w wr
def R6AllIn (n j : Nat) (r : Nat → Nat) (wo : World) (v i : Value) (wr : World) : Prop :=
  ∃ (k : Nat) (A : Option Addr) (c : Nat), k ≤ n ∧ j ≤ k ∧ i = .int .i64 k ∧ v = .slice A (clsL k r j).length c ∧ wr.ownsRow wo.heap.size 3 1 (.slice A (clsL k r j).length c) (clsL k r j).length (nL (clsL k r j)) ∧ Grew wo wr
set_option maxHeartbeats 1000000 in
theorem rall6_any (n : Nat) (hn : n ≤ 100000) (r : Nat → Nat) (hl : Least n r) (P : Option Addr) (c : Nat) (w : World) (hr : Row w P (numsL n r)) :
    Calls Try.prog 152 #[.slice P n c] w (NestF w (clsM n r)) := by
  have HR := Lib.hid hr
  have HL := Lib.hid hl
  clear hr hl
  go_enter Try.func152, Try.ntmps152
  go_wp2
  go_loopw [3, 4] (fun v i wr => R6AllAt n r w v i wr) (fun _ i _ => n - (intOf i).toNat)
  case atStart => exact ⟨0, none, 0, [], Nat.zero_le _, rfl, rfl, Nest.none w _ _, Grew.refl _⟩
  case round =>
    obtain ⟨j, A, d, vs, hj, rfl, rfl, hne, hg⟩ := hrel
    have HG := Lib.hid hg
    have HN := Lib.hid hne
    clear hg hne
    by_cases h : j < n
    · have hrow := HR.out.grew HG.out
      obtain ⟨b, o, rfl, hb, c0⟩ := hrow.nums h
      clear hrow
      by_cases e : r j = j
      · have HZ := Lib.hid (clsL_none HL.out hj (Nat.le_refl j))
        have HA := Lib.hid (clsA_in (n := n) e)
        have hlen : (clsA j n r).length ≤ j := by rw [clsA_len]; exact rootsN_le _ _
        rw [e] at c0
        generalize clsA j n r = L at *
        go_wp2
        obtain ⟨wo, rfl⟩ : ∃ wo : World, wo = wr := ⟨_, rfl⟩
        go_loopw [5, 6] (fun v i wx => R6AllIn n j r wo v i wx) (fun _ i _ => n - (intOf i).toNat)
        case atStart => exact ⟨j, none, 0, hj, Nat.le_refl _, rfl, by rw [HZ.out]; rfl, by rw [HZ.out]; exact own_none _ _ _ _, Grew.refl _⟩
        case round =>
          obtain ⟨k, B, d2, hk, hjk, rfl, rfl, ho, hg2⟩ := hrel
          have HG2 := Lib.hid hg2
          have HO := Lib.hid ho
          have hlk := clsL_le k j r
          clear hg2 ho
          by_cases h2 : k < n
          · obtain ⟨hb2, c1⟩ := nums_same (HR.out.grew (HG.out.trans HG2.out)) h2
            clear hb c0
            by_cases e2 : r k = j
            · have HC := Lib.hid (clsL_in e2)
              rw [e2] at c1
              generalize clsL k r j = M at *
              go_wp2_with (at_builtin; refine wpList_appN rfl (.tmp 32) (.tmp 34) 38 3 rfl wo.heap.size (.int .i64 0) 8 Try.underlying38 infoInt3 rfl (by decide) _ M.length (nL M) rfl (own_alloc HO.out _) _ 1 1 [.int .i64 k] rfl rfl (row_one _ _ _ _ rfl) (by simp; rfl) (by omega) (by have := HG2.out.size; simp; omega) ?_)
              intro A2 d3 w2 ho2 hgb _
              have HG3 := Lib.hid ((HG2.out.alloc _).grown hgb (own_base HO.out))
              have HO2 := Lib.hid ho2
              clear ho2 hgb HO HG2
              go_wp2
              refine ⟨⟨k + 1, A2, d3, by omega, by omega, by go_num, ?_, ?_, HG3.out⟩, by simp only [intOf]; omega⟩
              · rw [HC.out, List.length_append, List.length_singleton]
              · rw [HC.out, List.length_append, List.length_singleton, ← nL_snoc]
                exact HO2.out
            · have t2 : ((r k : Int) == (j : Int)) = false := by rw [beq_eq_false_iff_ne]; omega
              have HC := Lib.hid (clsL_out e2)
              generalize r k = rk at c1 t2
              clear e2
              go_wp2
              refine ⟨⟨k + 1, B, d2, by omega, by omega, by go_num, by rw [HC.out], by rw [HC.out]; exact HO.out, HG2.out⟩, by simp only [intOf]; omega⟩
          · obtain rfl : k = n := by omega
            have HAp : Hid (∀ (i : Nat) (v' : Value), vs[i]? = some v' → ∀ b, v'.ownBlock = some b → (Value.slice B (clsL k r j).length d2).ownBlock ≠ some b) := Lib.hid fun i v' hv b hb' hb2 => by
              have hi : i < vs.length := (List.getElem?_eq_some_iff.1 hv).1
              have h3 := own_lt (HN.out.inner i v' _ hv (List.getElem?_eq_getElem (by rw [← HN.out.len]; exact hi))).2 b hb'
              have h4 := own_base HO.out b hb2
              omega
            generalize clsL k r j = M at *
            go_wp2_with (at_builtin; refine wpList_appN rfl (.tmp 36) (.tmp 38) 36 38 rfl w.heap.size (.slice none 0 0) 24 Try.underlying36 infoSl rfl (by decide) _ L.length vs rfl (own_alloc (HN.out.grew HG2.out).outer _) _ 1 1 [.slice B M.length d2] rfl rfl (row_one _ _ _ _ rfl) (by simp; rfl) (by omega) (by have := (HG.out.trans HG2.out).size; simp; omega) ?_)
            intro A2 d3 w2 ho2 hgb _
            have HG3 := Lib.hid (((HG.out.trans HG2.out).alloc _).grown hgb (own_base (HN.out.grew HG2.out).outer))
            have HN2 := Lib.hid ((HN.out.grew (HG2.out.alloc _)).snoc ho2 hgb ⟨B, d2, rfl⟩ (own_le (own_alloc HO.out _) HG.out.size) HAp.out)
            clear ho2 hgb HO HG2 HN HAp
            go_wp2
            refine ⟨⟨j + 1, A2, d3, vs ++ [.slice B M.length d2], by omega, by go_num, ?_, ?_, HG3.out⟩, by simp only [intOf]; omega⟩
            · rw [HA.out, List.length_append, List.length_singleton]
            · rw [HA.out]
              exact HN2.out
      · have t1 : ((r j : Int) != (j : Int)) = true := by rw [bne_iff_ne]; omega
        have HA := Lib.hid (clsA_out (n := n) e)
        generalize r j = rj at c0 t1
        clear e
        go_wp2
        refine ⟨⟨j + 1, A, d, vs, by omega, by go_num, by rw [HA.out], by rw [HA.out]; exact HN.out, HG.out⟩, by simp only [intOf]; omega⟩
    · obtain rfl : j = n := by omega
      go_wp2
      go_ret
      exact ⟨A, d, rfl, HG.out, HN.out.read⟩
end Go.Proofs.Ytfdjnhnchibejaa
