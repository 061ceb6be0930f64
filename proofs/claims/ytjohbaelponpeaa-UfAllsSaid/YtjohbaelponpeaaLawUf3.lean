/- The law of all classes, of layer 6. Condition: pairs lie in memory that is there. -/
import Derived.Test.YtjohbaelponpeaaUfAll3
import Derived.Test.YtjohbaelponpeaaUfMath
import Derived.Deep.QuietTactic
namespace Go.Proofs.Ytjohbaelponpeaa
open Go.RowKit
attribute [local go_sem] more_cell more_frozen more_more more_setCell more_of_drew more_of_drewN lt_more le_more past_cell past_cell2 past_frozen past_frozen2 past_setCell past_setCell2 mid_cell mid_frozen mid_setCell
attribute [local go_sem ↓] Go.wp_at_zero Go.wp_at_succ

/-- Both lists of classes, and the classes. -/
structure Alls (u : World) (g h k : Nat) (R : Nat → Nat) (A B : Option Addr) (L : List (List Nat)) (w : World) : Prop where
  one : NestR w A L
  two : NestR w B L
  cls : UfS u g h k R w
theorem Alls.on {u w w' : World} {g h k : Nat} {R : Nat → Nat} {A B : Option Addr} {L : List (List Nat)} (s : Alls u g h k R A B L w) (m : Grew w w') : Alls u g h k R A B L w' := ⟨s.one.grew m, s.two.grew m, s.cls.on m⟩
def AllsAt (u : World) (g h k : Nat) (R : Nat → Nat) (A B : Option Addr) (L : List (List Nat)) (a : Int) (v i : Value) (wr : World) : Prop :=
  ∃ j : Nat, j ≤ L.length ∧ i = .int .i64 j ∧ v = .int .i64 (lastI L a j) ∧ Alls u g h k R A B L wr
def AllsIn (u : World) (g h k : Nat) (R : Nat → Nat) (A B : Option Addr) (L : List (List Nat)) (l : List Nat) (j : Nat) (a d : Int) (wo : World) (v i : Value) (wr : World) : Prop :=
  ∃ q : Nat, q ≤ l.length ∧ i = .int .i64 q ∧ v = .int .i64 (lastK l a j d q) ∧ Grew wo wr ∧ Alls u g h k R A B L wr
theorem grew_cell {w w' : World} (g : Grew w w') {b o : Nat} (h : b < w.heap.size) : w'.cell? ⟨b, o, none⟩ = w.cell? ⟨b, o, none⟩ := by
  obtain ⟨x, rfl⟩ := g
  exact World.cell?_of_block (more_block w x b h)
theorem lastI_step {L : List (List Nat)} {a : Int} {j : Nat} (h : j < L.length) : lastI L a (j + 1) = lastK L[j] a j (lastI L a j) L[j].length := by
  rw [lastK_end, lastI, List.getD_eq_getElem?_getD, List.getElem?_eq_getElem h]
  rfl
theorem lastK_yes {l : List Nat} {a d : Int} {j q : Nat} (h : q < l.length) (e : (l[q] : Int) = a) : lastK l a j d (q + 1) = j := by
  rw [lastK, List.getD_eq_getElem?_getD, List.getElem?_eq_getElem h]
  exact if_pos e
theorem lastK_no {l : List Nat} {a d : Int} {j q : Nat} (h : q < l.length) (e : ¬ (l[q] : Int) = a) : lastK l a j d (q + 1) = lastK l a j d q := by
  rw [lastK, List.getD_eq_getElem?_getD, List.getElem?_eq_getElem h]
  exact if_neg e
set_option maxHeartbeats 4000000 in
set_option maxRecDepth 100000 in
theorem ufAlls_walk (m : Int) (hm : 0 ≤ m) (hm' : m < 256) (l : List (Int × Int)) (P : Option Addr) (pd : Nat) (a : Int) (hl : l.length ≤ maxLen) (w : World) (hp : Grid w P 2 (pairsC l)) :
    Gives Try.prog 12 #[.int .u8 m, .slice P l.length pd, .int .i64 a] w (.bool true) := by
  unfold Gives
  have hl' : (l.length : Int) ≤ 9223372036854775807 := by unfold maxLen at hl; omega
  by_cases hbig : 60 < l.length
  · clear hp
    go_enter Try.func12, Try.ntmps12
    go_wp2_with (first | (go_at_call 64; refine (live6_any _).mono ?_; rintro e w' ⟨rfl, x, rfl⟩))
    go_ret
    exact ⟨rfl, by (show Grew _ _; repeat (first | exact Grew.refl _ | refine Grew.alloc ?_ _ | refine Grew.drew ?_ | refine Grew.more ?_ _))⟩
  · obtain ⟨k, hk⟩ : ∃ k : Nat, (k : Int) = m % 40 := ⟨(m % 40).toNat, by omega⟩
    have HC : Hid (Calls Try.prog 65 #[.int .u8 m, .slice P l.length pd] w (Played w k l)) := Lib.hid (play_any m k hk l (by omega) hm hm' P pd w hp)
    have hk40 : k < 40 := by omega
    clear hk hp
    generalize hR : foldR k l = R at *
    unfold Played at HC
    rw [hR] at HC
    clear hR
    go_enter Try.func12, Try.ntmps12
    go_wp2_with (go_at_call 65; (with_reducible refine HC.out.mono ?_); rintro e w2 ⟨g, h, A, c, rfl, s⟩; have S := Lib.hid s; clear s)
    have hLs := S.out.cls.least
    have HLL := Lib.hid (clsM_len k R)
    have HLI := Lib.hid (lastI_all hLs a)
    have hLk : (clsM k R).length ≤ 65536 := by rw [clsM_len]; have := rootsN_le k R; omega
    have hLm : ∀ (j : Nat) (hj : j < (clsM k R).length), (clsM k R)[j].length ≤ 65536 := fun j hj => by
      have hm2 := List.getElem_mem hj
      generalize (clsM k R)[j] = x at hm2
      unfold clsM at hm2
      obtain ⟨q, _, rfl⟩ := List.mem_map.1 hm2
      have := clsL_le k q R
      omega
    have HA : Hid (Calls Try.prog 67 #[.slice A k c] w2 (NestF w2 (clsM k R))) := Lib.hid (rall6_any k (by omega) R hLs A c w2 S.out.row)
    go_wp2_with (first | (go_at_call 66; (with_reducible refine (ufall_any k R w w2 g h S.out.cls).mono ?_); rintro e w3 ⟨A1, c1, rfl, n3, s3, k3⟩; have S3 := Lib.hid s3; have N3 := Lib.hid n3; have R3 := Lib.hid (S.out.row.keep k3 S.out.off); clear n3 s3 k3) | (go_at_call 67; (with_reducible refine (rall6_any k (by omega) R hLs A c _ R3.out).mono ?_); rintro e w4 ⟨A2, c2, rfl, g4, n4⟩; have S4 : Hid (Alls w g h k R A1 A2 (clsM k R) w4) := Lib.hid ⟨N3.out.grew g4, n4, S3.out.on g4⟩; clear n4 g4) | (go_at_call 68; (with_reducible refine (uf_count ((clsM k R).length : Nat) w _ g h k R S4.out.cls (by rw [HLL.out])).mono ?_); rintro e w5 ⟨rfl, hw⟩; have hw := hw.symm; subst hw))
    clear HA S HLL hLs
    generalize clsM k R = L at *
    go_loopw [11, 12] (fun v i wr => AllsAt w g h k R A1 A2 L a v i wr) (fun _ i _ => L.length - (intOf i).toNat)
    case atStart => exact ⟨0, Nat.zero_le _, rfl, rfl, S4.out⟩
    case round =>
      obtain ⟨j, hj, rfl, rfl, s⟩ := hrel
      have HS := Lib.hid s
      clear s S4 S3 N3 R3
      by_cases hjl : j < L.length
      · have HLs := Lib.hid (lastI_step (a := a) hjl)
        have HLm := hLm j hjl
        have hN1 := HS.out.one.at hjl
        have hN2 := HS.out.two.at hjl
        have HN : Hid (∀ W, Grew wr W → (∃ b o B c, A1 = some ⟨b, o, none⟩ ∧ b < W.heap.size ∧ W.cell? ⟨b, o + j, none⟩ = some (.slice B L[j].length c) ∧ Row W B (nL L[j])) ∧ (∃ b o B c, A2 = some ⟨b, o, none⟩ ∧ b < W.heap.size ∧ W.cell? ⟨b, o + j, none⟩ = some (.slice B L[j].length c) ∧ Row W B (nL L[j]))) := Lib.hid fun W hW => ⟨(HS.out.on hW).one.at hjl, (HS.out.on hW).two.at hjl⟩
        obtain ⟨b1, o1, B1, c1, rfl, hb1, d1, r1⟩ := hN1
        obtain ⟨b2, o2, B2, c2, rfl, hb2, d2, r2⟩ := hN2
        have HD : Hid (∀ W, Grew wr W → (b1 < W.heap.size ∧ W.cell? ⟨b1, o1 + j, none⟩ = some (.slice B1 L[j].length c1) ∧ Row W B1 (nL L[j])) ∧ (b2 < W.heap.size ∧ W.cell? ⟨b2, o2 + j, none⟩ = some (.slice B2 L[j].length c2) ∧ Row W B2 (nL L[j]))) := Lib.hid fun W hW => ⟨⟨Nat.lt_of_lt_of_le hb1 hW.size, (grew_cell hW hb1).trans d1, r1.grew hW⟩, ⟨Nat.lt_of_lt_of_le hb2 hW.size, (grew_cell hW hb2).trans d2, r2.grew hW⟩⟩
        clear r1 r2 HN hLm HLI
        generalize L[j] = M at *
        generalize hd : lastI L a j = d at *
        clear hd
        go_wp2
        go_quiet (fail)
        go_wp2
        obtain ⟨wo, hwo⟩ : ∃ wo : World, wo = wr := ⟨_, rfl⟩
        rw [← hwo] at HS HD
        go_loopw [11, 13] (fun v i wx => AllsIn w g h k R (some ⟨b1, o1, none⟩) (some ⟨b2, o2, none⟩) L M j a d wo v i wx) (fun _ i _ => M.length - (intOf i).toNat)
        case atStart =>
          rw [← hwo]
          exact ⟨0, Nat.zero_le _, rfl, rfl, by (show Grew _ _; repeat (first | exact Grew.refl _ | refine Grew.alloc ?_ _ | refine Grew.drew ?_ | refine Grew.more ?_ _)), HS.out.on (by (show Grew _ _; repeat (first | exact Grew.refl _ | refine Grew.alloc ?_ _ | refine Grew.drew ?_ | refine Grew.more ?_ _)))⟩
        case round =>
          obtain ⟨q, hq, rfl, rfl, hgq, sq⟩ := hrel
          have HSq := Lib.hid sq
          have HGq := Lib.hid hgq
          obtain ⟨⟨f1, f2, f3⟩, ⟨f4, f5, f6⟩⟩ := HD.out _ hgq
          clear sq hgq hb1 hb2 d1 d2 hwo
          by_cases hql : q < M.length
          · obtain ⟨x1, y1, rfl, e1, e2⟩ := row_nat f3 hql
            obtain ⟨x2, y2, rfl, e3, e4⟩ := row_nat f6 hql
            clear f3 f6
            by_cases hxa : (M[q] : Int) = a
            · have HK := Lib.hid (lastK_yes (d := d) (j := j) hql hxa)
              rw [hxa] at e2 e4
              have t1 : (a == a) = true := by simp
              generalize lastK M a j d q = dd at *
              clear hxa
              go_wp2
              go_quiet (fail)
              go_wp2
              refine ⟨⟨q + 1, by omega, by go_num, by rw [HK.out], HGq.out.trans (by (show Grew _ _; repeat (first | exact Grew.refl _ | refine Grew.alloc ?_ _ | refine Grew.drew ?_ | refine Grew.more ?_ _))), HSq.out.on (by (show Grew _ _; repeat (first | exact Grew.refl _ | refine Grew.alloc ?_ _ | refine Grew.drew ?_ | refine Grew.more ?_ _)))⟩, by simp only [intOf]; omega⟩
            · have HK := Lib.hid (lastK_no (d := d) (j := j) hql hxa)
              have t1 : ((M[q] : Int) == a) = false := by rw [beq_eq_false_iff_ne]; exact hxa
              generalize lastK M a j d q = dd at *
              generalize M[q] = mq at *
              clear hxa
              go_wp2
              go_quiet (fail)
              go_wp2
              refine ⟨⟨q + 1, by omega, by go_num, by rw [HK.out], HGq.out.trans (by (show Grew _ _; repeat (first | exact Grew.refl _ | refine Grew.alloc ?_ _ | refine Grew.drew ?_ | refine Grew.more ?_ _))), HSq.out.on (by (show Grew _ _; repeat (first | exact Grew.refl _ | refine Grew.alloc ?_ _ | refine Grew.drew ?_ | refine Grew.more ?_ _)))⟩, by simp only [intOf]; omega⟩
          · obtain rfl : q = M.length := by omega
            generalize lastK M a j d M.length = dd at *
            clear f3 f6
            go_wp2
            refine ⟨⟨j + 1, by omega, by go_num, by rw [HLs.out], HSq.out⟩, by simp only [intOf]; omega⟩
      · obtain rfl : j = L.length := by omega
        generalize lastI L a L.length = d at *
        go_wp2_with (first | (go_at_call_of 69 (Value.pointer (some ⟨g, 0, none⟩)); (with_reducible refine (number_any a d w _ g h k R HS.out.cls HLI.out.symm).mono ?_); rintro e w6 ⟨rfl, s6⟩; have S6 := Lib.hid s6.grew; clear s6) | (go_at_call 69; refine (number_nil _ _).mono ?_; rintro e w' ⟨rfl, rfl⟩) | (go_at_call 70; refine (join_nil _ _ _).mono ?_; rintro e w' ⟨rfl, rfl⟩) | (go_at_call 71; refine (find_nil _ _).mono ?_; rintro e w' ⟨rfl, rfl⟩) | (go_at_call 72; refine (len_nil _).mono ?_; rintro e w' ⟨rfl, rfl⟩) | (go_at_call 68; refine (count_nil _).mono ?_; rintro e w' ⟨rfl, rfl⟩) | (go_at_call 73; refine (same_nil _ _ _).mono ?_; rintro e w' ⟨rfl, rfl⟩) | (go_at_call 64; refine (live6_any _).mono ?_; rintro e w' ⟨rfl, x, rfl⟩))
        go_ret
        exact ⟨rfl, S6.out.trans (by (show Grew _ _; repeat (first | exact Grew.refl _ | refine Grew.alloc ?_ _ | refine Grew.drew ?_ | refine Grew.more ?_ _)))⟩
end Go.Proofs.Ytjohbaelponpeaa
