/- Layer 6: all classes, as the program makes them. No condition but that the classes lie in memory as they are made. -/
import Derived.Test.YtjohbaelponpeaaUfAll
import Derived.Test.YtjohbaelponpeaaHead
import Derived.Deep.DeepCutAuto
namespace Go.Proofs.Ytjohbaelponpeaa
open Go.RowKit
attribute [local go_sem] more_cell more_frozen more_more more_setCell more_of_drew more_of_drewN lt_more le_more past_cell past_cell2 past_frozen past_frozen2 past_setCell past_setCell2 mid_cell mid_frozen mid_setCell
attribute [local go_sem ↓] Go.wp_at_zero Go.wp_at_succ

theorem findI_in {k : Nat} {R : Nat → Nat} {a : Nat} (ha : a < k) : findI k R a = (R a : Nat) := by
  unfold findI
  rw [if_pos (by omega), Int.toNat_natCast]
theorem wpList_make_cap {P : Program} (w : World) {ops : Array Oper} {rest : List Oper} {o : Oper} {a : Act} {Q : Exit → Act → World → Prop}
    (hg : o.guard = none) (l c : Operand) (t : TypeId) (hop : o.op = Op.makeSlice t l c)
    (e : TypeId) (i : TypeInfo) (z : Value) (ht : P.underlying t = some (.slice e)) (hi : P.info? e = some i) (hz : i.zero = some z) (hsize : i.size = 1) (hz1 : z.cells = #[z])
    (kl kc : IntKind) (n : Nat) (hl : a.eval l = .int kl 0) (hc : a.eval c = .int kc (n : Int)) (hbytes : i.bytes * n ≤ 281474976710656) (h63 : n ≤ 9223372036854775807)
    (hK : wpList P ops Q rest (a.put o.dst (.slice (some ⟨w.heap.size, 0, none⟩) 0 n)) (w.alloc (.cells (madeCells #[z] n) e))) :
    wpList P ops Q (o :: rest) a w := by
  refine wpList_plain hg fun K hK' => ?_
  have hb' : (i.bytes : Int) * (n : Int) ≤ 281474976710656 := by
    have h : ((i.bytes * n : Nat) : Int) ≤ 281474976710656 := by omega
    rwa [Int.natCast_mul] at h
  have hrun := run_make (P := P) w t e i z ht hi hz kl kc 0 n (Int.le_refl _) (by omega) hb' (by omega)
  simp only [Int.toNat_zero, Int.toNat_natCast, hsize, Nat.mul_one, hz1] at hrun
  unfold Oper.wp
  simp [execOp, hop, hl, hc, hrun, Result.andThen]
  exact hK' _ _ hK
theorem Keep2.turns {w w' w'' : World} {g h b : Nat} (a : Keep2 w w' g h) (t : Turns w' w'' b) (hb : w.heap.size ≤ b) : Keep2 w w'' g h :=
  ⟨t.os.trans a.os, t.tape.trans a.tape, t.output.trans a.output, Nat.le_trans a.size t.size, fun k hk n1 n2 => (t.block k (Nat.lt_of_lt_of_le hk a.size) (by omega)).trans (a.block k hk n1 n2)⟩
theorem Keep2.far {w w' : World} {g h : Nat} (a : Keep2 w w' g h) {b i : Nat} (hb : w.heap.size ≤ b) (v : Value) : Keep2 w (w'.setCell ⟨b, i, none⟩ v) g h := a.turns ((Turns.refl w' b).set i v) hb
theorem Keep2.grown {w w' w'' : World} {g h : Nat} {row : Option Nat} (a : Keep2 w w' g h) (k : w'.grownBy w'' row) (hr : ∀ i, row = some i → w.heap.size ≤ i) : Keep2 w w'' g h :=
  ⟨k.os.trans a.os, k.tape.trans a.tape, k.output.trans a.output, Nat.le_trans a.size k.size, fun i hi n1 n2 => by
    rw [k.block i (Nat.lt_of_lt_of_le hi a.size) (fun e => by have := hr i e.symm; omega)]
    exact a.block i hi n1 n2⟩
theorem Keep2.on {w w' w'' : World} {g h : Nat} (a : Keep2 w w' g h) (k : Grew w' w'') : Keep2 w w'' g h := by
  obtain ⟨x, rfl⟩ := k
  exact a.more x
theorem Blok.keep {w w' : World} {g h b : Nat} {t : TypeId} {cs : Array Value} (hb : Blok w b t cs) (k : Keep2 w w' g h) (h1 : b ≠ g) (h2 : b ≠ h) : Blok w' b t cs := by
  have hl := hb.lt
  unfold Blok at *
  rw [k.block b hl h1 h2]
  exact hb
theorem UfS.far {u w : World} {g h n : Nat} {r : Nat → Nat} (s : UfS u g h n r w) {b i : Nat} (h1 : u.heap.size ≤ b) (h2 : b ≠ g) (h3 : b ≠ h) (v : Value) : UfS u g h n r (w.setCell ⟨b, i, none⟩ v) := by
  obtain ⟨f, a, hl⟩ := s.lies
  exact ⟨s.grew.setCell h1 v, s.gu, s.hu, s.least, f, ⟨a.top.far (p := ⟨b, i, none⟩) (fun e => h2 e.symm) v, a.row.far (p := ⟨b, i, none⟩) (fun e => h3 e.symm) v, a.ne, a.small⟩, hl⟩
theorem UfS.grown {u w w' : World} {g h n : Nat} {r : Nat → Nat} {row : Option Nat} (s : UfS u g h n r w) (k : w.grownBy w' row) (hr : ∀ i, row = some i → u.heap.size ≤ i ∧ i ≠ g ∧ i ≠ h) : UfS u g h n r w' := by
  obtain ⟨f, a, hl⟩ := s.lies
  exact ⟨s.grew.grown k fun i hi => (hr i hi).1, s.gu, s.hu, s.least, f, ⟨a.top.grown k fun e => (hr g e).2.1 rfl, a.row.grown k fun e => (hr h e).2.2 rfl, a.ne, a.small⟩, hl⟩
theorem own_grewU {w w' : World} {base : Nat} {e : TypeId} {size n : Nat} {v : Value} {xs : List Value} (h : w.ownsRow base e size v n xs) (g : Grew w w') : w'.ownsRow base e size v n xs := by
  obtain ⟨x, rfl⟩ := g
  exact own_more h x
/-- While the classes are made. -/
structure AllS (u w : World) (g h n : Nat) (r : Nat → Nat) (m : Nat) (pf : Nat → Nat) (A : Option Addr) (cap : Nat) (vs : List Value) (L : List (List Nat)) (wr : World) : Prop where
  nest : Nest wr w.heap.size (w.heap.size + 2) A cap vs L
  place : Blok wr (w.heap.size + 1) 3 (numsV n pf)
  tells : ∀ q, q < m → r q = q → pf q = rootsN q r
  cls : UfS u g h n r wr
  keep : Keep2 w wr g h
def UfAllAt (u w : World) (g h n : Nat) (r : Nat → Nat) (v i : Value) (wr : World) : Prop :=
  ∃ (m : Nat) (A : Option Addr) (cap : Nat) (vs : List Value) (pf : Nat → Nat), m ≤ n ∧ i = .int .i64 m ∧ v = .slice A (clsM m r).length cap ∧ AllS u w g h n r m pf A cap vs (clsM m r) wr
def UfMid (u w : World) (g h n : Nat) (r : Nat → Nat) (m p : Nat) (v : Value) (wr : World) : Prop :=
  ∃ (A : Option Addr) (cap : Nat) (vs : List Value) (pf : Nat → Nat) (L : List (List Nat)) (l : List Nat), v = .slice A L.length cap ∧ AllS u w g h n r (m + 1) pf A cap vs L wr ∧ L[pf p]? = some l ∧ L.set (pf p) (l ++ [m]) = clsM (m + 1) r ∧ L.length ≤ 65536 ∧ l.length ≤ 65536
/-- What is left: the classes, and lists of numbers. -/
def UfAllF (u w : World) (g h n : Nat) (r : Nat → Nat) (e : Ending) (w' : World) : Prop := ∃ A k, e = .returned (.slice A (clsM n r).length k) ∧ NestR w' A (clsM n r) ∧ UfS u g h n r w' ∧ Keep2 w w' g h
set_option maxHeartbeats 4000000 in
set_option maxRecDepth 400000 in
theorem ufall_any (n : Nat) (r : Nat → Nat) (u w : World) (g h : Nat) (s : UfS u g h n r w) :
    Calls Try.prog 66 #[.pointer (some ⟨g, 0, none⟩)] w (UfAllF u w g h n r) := by
  have hsm := s.small
  obtain ⟨hgl, hhl⟩ := s.lt
  have hus := s.grew.size
  have S := Lib.hid s
  have HL := Lib.hid s.least
  obtain ⟨cn, hcn⟩ : ∃ cn, rootsN n r = cn := ⟨_, rfl⟩
  have hcl : cn ≤ 65536 := by have := rootsN_le n r; omega
  have HC : Hid ((rootsN n r : Int) = (cn : Int)) := Lib.hid (by rw [hcn])
  obtain ⟨j0, hj, hj'⟩ := Option.map_eq_some_iff.1 infoInt3
  simp only [Prod.mk.injEq] at hj'
  obtain ⟨hj0, hj1, hj2⟩ := hj'
  have HJ := Lib.hid hj
  have HJ0 := Lib.hid hj0
  have HJ1 := Lib.hid hj1
  have HJ2 := Lib.hid hj2
  obtain ⟨i0, hi, hi'⟩ := Option.map_eq_some_iff.1 infoSl
  simp only [Prod.mk.injEq] at hi'
  obtain ⟨hi0, hi1, hi2⟩ := hi'
  have HI := Lib.hid hi
  have HI0 := Lib.hid hi0
  have HI1 := Lib.hid hi1
  have HI2 := Lib.hid hi2
  clear hj hj0 hj1 hj2 hi hi0 hi1 hi2 hcn s
  go_enter Try.func66, Try.ntmps66
  go_wp2_with (first | (go_at_call 68; (with_reducible refine (uf_count cn u _ g h n r S.out HC.out).mono ?_); rintro e w' ⟨rfl, hw⟩; have hw := hw.symm; subst hw) | (go_at_call 72; (with_reducible refine (uf_len u _ g h n r (S.out.on (by repeat (first | exact Grew.refl _ | apply Grew.alloc)))).mono ?_); rintro e w' ⟨rfl, hw⟩; have hw := hw.symm; subst hw) | (at_make; refine wpList_make_cap _ rfl _ _ 26 rfl 22 i0 (.slice none 0 0) Try.underlying26 HI.out HI0.out HI1.out rfl _ _ cn rfl rfl (by rw [HI2.out]; omega) (by omega) ?_) | (at_make; refine wpList_make_row _ rfl _ _ 22 rfl 3 j0 (.int .i64 0) Try.underlying22 HJ.out HJ0.out HJ1.out rfl _ _ n rfl rfl (by rw [HJ2.out]; omega) (by omega) ?_))
  go_loopw [3, 15] (fun v i wr => UfAllAt u w g h n r v i wr) (fun _ i _ => n - (intOf i).toNat)
  case atStart =>
    refine ⟨0, _, cn, [], fun _ => 0, Nat.zero_le _, rfl, rfl, ?_, ?_, by omega, ?_, ?_⟩
    · exact Nest.nil _ _ _ _ _ (own_alloc (World.ownsRow_made w _ cn (Nat.le_refl _) (by unfold maxLen; omega) (by rw [size_madeCells, Nat.mul_one])) _)
    · rw [made_nums n (fun _ => 0) (fun i => rfl)]
      exact Blok.new _ _ _ _ (by simp)
    · exact S.out.on (((Grew.refl w).alloc _).alloc _)
    · exact (Keep2.refl w g h).on (((Grew.refl w).alloc _).alloc _)
  case round =>
    obtain ⟨m, A, cap, vs, pf, hm, rfl, rfl, ha⟩ := hrel
    have HA := Lib.hid ha
    clear ha
    by_cases hmn : m < n
    · have HF := Lib.hid (findI_in (R := r) hmn)
      have hle := HL.out.le m hmn
      have hid := HL.out.idem m hmn
      have hLn : (clsM m r).length ≤ m := by rw [clsM_len]; exact rootsN_le _ _
      have HRoot := Lib.hid (fun e : r m = m => clsM_root HL.out hmn e)
      have HStep := Lib.hid (fun (p : Nat) (e : r m = p) (h1 : p < m) (h2 : r p = p) => clsM_step e h1 h2)
      have HAt := Lib.hid (fun (p : Nat) (h1 : p < m) (h2 : r p = p) => clsM_at h1 h2)
      have HLen := Lib.hid (clsM_len m r)
      obtain ⟨p, hp⟩ : ∃ p, r m = p := ⟨_, rfl⟩
      have HP := Lib.hid hp
      rw [hp] at HF hle hid
      clear hp
      have hpn : p < n := by omega
      have HID := Lib.hid hid
      clear hid
      go_upto_if 23 with (go_at_call 71; (with_reducible refine (uf_find m p u _ g h n r HA.out.cls HF.out).mono ?_); rintro e w3 ⟨rfl, s3, k3⟩; have S3 := Lib.hid s3; have K3 := Lib.hid k3; clear s3 k3)
      have HA3 : Hid (AllS u w g h n r m pf A cap vs (clsM m r) w3) := Lib.hid ⟨HA.out.nest.keep K3.out (by omega) (by omega), HA.out.place.keep K3.out (by omega) (by omega), HA.out.tells, S3.out, HA.out.keep.trans K3.out⟩
      clear HA S3 K3
      go_cut [3] (fun v wx => UfMid u w g h n r m p v wx)
      case first =>
        generalize hL : clsM m r = L at *
        have HLL := Lib.hid hL
        clear hL
        by_cases e : p = m
        · subst e
          have t1 : ((p : Int) == (p : Int)) = true := by simp
          have z1 := HA3.out.place.thaw p
          have c1 := HA3.out.place.cell p
          rw [numsV_at n pf p hmn] at c1
          have hlt := HA3.out.place.lt
          have HA4 : Hid (AllS u w g h n r (p + 1) (fun i => if i = p then L.length else pf i) A cap vs L (w3.setCell ⟨w.heap.size + 1, p, none⟩ (.int .i64 (L.length : Nat)))) := Lib.hid (by
            have a := HA3.out
            refine ⟨a.nest.far (by show w.heap.size + 1 < _; omega) (fun b hb => ?_) _, by rw [← numsV_set]; exact a.place.set p _, fun q hq hr => ?_, a.cls.far (by omega) (by omega) (by omega) _, a.keep.far (by omega) _⟩
            · intro hbe
              have hbe : b = w.heap.size + 1 := hbe
              subst hbe
              have hx := a.nest.outer
              obtain ⟨_, hx⟩ := hx
              rcases hx with ⟨hx, _⟩ | ⟨q, cap', cur, hx, _, hq, _⟩
              · rw [hx] at hb; cases hb
              · rw [hx] at hb
                injection hb with hb
                subst hb
                have := a.place
                unfold Blok at this
                rw [hq] at this
                injection this with this
                injection this with _ e3 _
                exact absurd e3 (by decide)
            · by_cases e2 : q = p
              · subst e2
                simp only [if_true]
                rw [HLen.out]
              · simp only [if_neg e2]
                exact a.tells q (by omega) hr)
          clear HA3
          go_wp2_with (at_builtin; refine wpList_appN rfl (.tmp 29) (.tmp 30) 26 22 rfl w.heap.size (.slice none 0 0) 24 Try.underlying26 infoSl rfl (by decide) _ L.length vs rfl (own_alloc HA4.out.nest.outer _) _ 1 1 [.slice none 0 0] rfl rfl (row_one _ _ _ _ (by simp)) (by intro u hu; obtain rfl := List.mem_singleton.1 hu; rfl) (by omega) (by have := HA4.out.keep.size; simp only [World.size_alloc]; omega) ?_)
          intro A2 d3 w4 ho2 hgb _
          have HB := Lib.hid (own_base HA4.out.nest.outer)
          have HM : Hid (AllS u w g h n r (p + 1) (fun i => if i = p then L.length else pf i) A2 d3 (vs ++ [.slice none 0 0]) (L ++ [[]]) w4) := Lib.hid (by
            have a := HA4.out
            have hsz := a.keep.size
            refine ⟨(a.nest.grew ((Grew.refl _).alloc _)).snoc ho2 hgb ⟨none, 0, rfl⟩ (own_none _ _ _ _) (fun j v' _ b _ hb => by cases hb), (a.place.alloc _).grown hgb (fun e5 => ?_), a.tells, (a.cls.on ((Grew.refl _).alloc _)).grown hgb (fun i hi => ?_), (a.keep.on ((Grew.refl _).alloc _)).grown hgb (fun i hi => HB.out i hi)⟩
            · have hx := a.nest.outer
              obtain ⟨_, hx⟩ := hx
              rcases hx with ⟨hx, _⟩ | ⟨q, cap', cur, hx, _, hq, _⟩
              · rw [hx] at e5; cases e5
              · rw [hx] at e5
                injection e5 with e5
                subst e5
                have := a.place
                unfold Blok at this
                rw [hq] at this
                injection this with this
                injection this with _ e3 _
                exact absurd e3 (by decide)
            · have := HB.out i hi
              exact ⟨by omega, by omega, by omega⟩)
          clear ho2 hgb HA4 HB
          go_wp2
          go_meet
          case rel =>
            refine ⟨A2, d3, vs ++ [.slice none 0 0], _, L ++ [[]], [], by simp, HM.out, ?_, ?_, by rw [List.length_append, List.length_singleton]; omega, by simp⟩
            · simp only [if_true]
              rw [List.getElem?_append_right (Nat.le_refl _), Nat.sub_self]
              rfl
            · simp only [if_true]
              rw [List.set_append_right _ _ (Nat.le_refl _), Nat.sub_self]
              have := HRoot.out HP.out
              rw [this]
              rfl
        · have t1 : ((p : Int) == (m : Int)) = false := by rw [beq_eq_false_iff_ne]; omega
          have hpm : p < m := by omega
          have hpp : r p = p := HID.out
          have hpf := HA3.out.tells p hpm hpp
          have hat := HAt.out p hpm hpp
          have hst := HStep.out p HP.out hpm hpp
          have HM : Hid (UfMid u w g h n r m p (.slice A L.length cap) w3) := Lib.hid (by
            have a := HA3.out
            refine ⟨A, cap, vs, pf, L, clsL m r p, rfl, ⟨a.nest, a.place, fun q hq hr => ?_, a.cls, a.keep⟩, by rw [hpf]; exact hat, by rw [hpf]; exact hst.symm, by omega, by have := clsL_le m p r; omega⟩
            by_cases e2 : q = m
            · subst e2
              exact absurd (HP.out.symm.trans hr) e
            · exact a.tells q (by omega) hr)
          clear hpf hat hst hpp HA3 e
          go_wp2
          go_meet
          case rel => exact HM.out
      case rest =>
        clear HLen HAt HStep HRoot HF hLn
        obtain ⟨A2, cap2, vs2, pf2, L, l, rfl, ha, hLq, hset, hLs, hls⟩ := hcut
        have HA5 := Lib.hid ha
        have HSet := Lib.hid hset
        obtain ⟨q, hq⟩ : ∃ q, pf2 p = q := ⟨_, rfl⟩
        rw [hq] at hLq hset
        have hqL : q < L.length := (List.getElem?_eq_some_iff.1 hLq).1
        have hqv : q < vs2.length := by rw [ha.nest.len]; exact hqL
        obtain ⟨V, hV⟩ : ∃ V, vs2[q]? = some V := ⟨_, List.getElem?_eq_getElem hqv⟩
        obtain ⟨⟨B, c2, rfl⟩, hin⟩ := ha.nest.inner q V l hV hLq
        obtain ⟨ob, cap', hv, hob⟩ := World.ownsRow.form ha.nest.outer (by omega)
        injection hv with hv1 _ hv3
        subst hv1 hv3
        have HLq := Lib.hid hLq
        have HV := Lib.hid hV
        have HIn := Lib.hid hin
        have HQ := Lib.hid hq
        have hqv' : (q : Int) < (L.length : Int) := by omega
        have hpi : (p : Int) < (n : Int) := by omega
        have hS0 : Blok (wc.drew) (w.heap.size + 1) 3 (numsV n pf2) ∧ (wc.drew).ownsRow w.heap.size 22 1 (.slice (some ⟨ob, 0, none⟩) L.length cap2) L.length vs2 := ⟨ha.place, ha.nest.outer⟩
        clear ha hin hset hV hLq
        go_upto_region 10 with fail
        refine wp_region_last (fun W => Blok W (w.heap.size + 1) 3 (numsV n pf2) ∧ W.ownsRow w.heap.size 22 1 (.slice (some ⟨ob, 0, none⟩) L.length cap2) L.length vs2) 16 rfl (by kernel_rfl) ?_
        refine last_take 0 (v := ?_) rfl (by kernel_rfl) (by kernel_rfl) (by kernel_rfl) (by kernel_rfl) (fun _ _ _ h => h) (by rfl) ?_ hS0 ?_
        rotate_left
        · (intro W hW; go_simp; with_reducible rfl)
        refine last_take 1 (v := ?_) rfl (by kernel_rfl) (by kernel_rfl) (by kernel_rfl) (by kernel_rfl) (fun _ _ _ h => h) (by rfl) ?_ hS0 ?_
        rotate_left
        · (intro W hW; go_simp; with_reducible rfl)
        refine last_take 2 (v := ?_) rfl (by kernel_rfl) (by kernel_rfl) (by kernel_rfl) (by kernel_rfl) (fun _ _ _ h => h) (by rfl) ?_ hS0 ?_
        rotate_left
        · (intro W hW; go_simp; with_reducible rfl)
        refine last_take 5 (v := ?_) rfl (by kernel_rfl) (by kernel_rfl) (by kernel_rfl) (by kernel_rfl) (fun _ _ _ h => h) (by rfl) ?_ hS0 ?_
        rotate_left
        · (intro W hW; go_simp; with_reducible rfl)
        refine last_take 6 (v := ?_) rfl (by kernel_rfl) (by kernel_rfl) (by kernel_rfl) (by kernel_rfl) (fun _ _ _ h => h) (by rfl) ?_ hS0 ?_
        rotate_left
        · (intro W hW; go_simp; with_reducible rfl)
        refine last_take 7 (v := ?_) rfl (by kernel_rfl) (by kernel_rfl) (by kernel_rfl) (by kernel_rfl) (fun _ _ _ h => h) (by rfl) ?_ hS0 ?_
        rotate_left
        · (intro W hW; go_simp; with_reducible rfl)
        refine last_take 12 (v := ?_) rfl (by kernel_rfl) (by kernel_rfl) (by kernel_rfl) (by kernel_rfl) (fun _ _ _ h => h) (by rfl) ?_ hS0 ?_
        rotate_left
        · (intro W hW; go_simp; with_reducible rfl)
        refine last_norm (a' := ?_) ?_ ?_
        rotate_left
        · (go_simp; with_reducible rfl)
        refine last_take 3 (v := ?_) rfl (by kernel_rfl) (by kernel_rfl) (by kernel_rfl) (by kernel_rfl) (fun _ _ _ h => h) (by rfl) ?_ hS0 ?_
        rotate_left
        · (intro W hW; go_simp; with_reducible rfl)
        refine last_take 8 (v := ?_) rfl (by kernel_rfl) (by kernel_rfl) (by kernel_rfl) (by kernel_rfl) (fun _ _ _ h => h) (by rfl) ?_ hS0 ?_
        rotate_left
        · (intro W hW; go_simp; with_reducible rfl)
        refine last_norm (a' := ?_) ?_ ?_
        rotate_left
        · (go_simp; with_reducible rfl)
        refine last_take 4 (v := ?_) rfl (by kernel_rfl) (by kernel_rfl) (by kernel_rfl) (by kernel_rfl) (fun _ _ _ h => h) (by rfl) ?_ hS0 ?_
        rotate_left
        · (intro W hW; have q0 := hW.1.cell p; rw [numsV_at n pf2 p hpn, HQ.out] at q0; have z0 := hW.1.lt; go_simp; with_reducible rfl)
        refine last_norm (a' := ?_) ?_ ?_
        rotate_left
        · (go_simp; with_reducible rfl)
        refine last_take 9 (v := ?_) rfl (by kernel_rfl) (by kernel_rfl) (by kernel_rfl) (by kernel_rfl) (fun _ _ _ h => h) (by rfl) ?_ hS0 ?_
        rotate_left
        · (intro W hW; have q0 := hW.1.cell p; rw [numsV_at n pf2 p hpn, HQ.out] at q0; have z0 := hW.1.lt; go_simp; with_reducible rfl)
        refine last_norm (a' := ?_) ?_ ?_
        rotate_left
        · (go_simp; with_reducible rfl)
        refine last_take 10 (v := ?_) rfl (by kernel_rfl) (by kernel_rfl) (by kernel_rfl) (by kernel_rfl) (fun _ _ _ h => h) (by rfl) ?_ hS0 ?_
        rotate_left
        · (intro W hW; go_simp; with_reducible rfl)
        refine last_norm (a' := ?_) ?_ ?_
        rotate_left
        · (go_simp; with_reducible rfl)
        refine last_take 11 (v := ?_) rfl (by kernel_rfl) (by kernel_rfl) (by kernel_rfl) (by kernel_rfl) (fun _ _ _ h => h) (by rfl) ?_ hS0 ?_
        rotate_left
        · (intro W hW; have q1 := hW.2.cellAt q (by omega); rw [HV.out] at q1; have z0 := World.ownsRow.lt hW.2 ob rfl; go_simp; with_reducible rfl)
        refine last_norm (a' := ?_) ?_ ?_
        rotate_left
        · (go_simp; with_reducible rfl)
        refine last_call 13 (by kernel_rfl) (by kernel_rfl) rfl (by rfl) (fun K hK => ?_)
        go_simp
        go_wp2_with fail
        refine hK.out _ _ ⟨hS0.1.alloc _, own_alloc hS0.2 _⟩ ?_
        clear hK K
        refine last_call 14 (by kernel_rfl) (by kernel_rfl) rfl (by rfl) (fun K hK => ?_)
        have HBi := Lib.hid (own_base HIn.out)
        have HBl := Lib.hid (own_lt HIn.out)
        refine wp_appN (.tmp 43) (.tmp 45) 22 3 rfl (w.heap.size + 2) (.int .i64 0) 8 Try.underlying22 infoInt3 rfl (by decide) _ l.length (nL l) rfl (own_alloc (own_grewU HIn.out (Grew.refl _).drew) _) _ 1 1 [.int .i64 m] rfl rfl (row_one _ _ _ _ rfl) (by intro u hu; obtain rfl := List.mem_singleton.1 hu; rfl) (by omega) (by have := HA5.out.place.lt; have e : ∀ w : World, w.drew.heap.size = w.heap.size := fun _ => rfl; simp only [World.size_alloc, e]; omega) ?_
        intro A6 c6 w6 ho6 hg6 hor6
        have hrow6 : ∀ i, (Value.slice B l.length c2).ownBlock = some i → w.heap.size + 2 ≤ i := HBi.out
        have HP6 : Hid (Nest (w6.setCell ⟨ob, q, none⟩ (.slice A6 (l.length + 1) c6)) w.heap.size (w.heap.size + 2) (some ⟨ob, 0, none⟩) cap2 (vs2.set q (.slice A6 (l.length + 1) c6)) (L.set q (l ++ [m]))) := Lib.hid ((HA5.out.nest.grew ((Grew.refl wc).drew.alloc _)).put HV.out HLq.out ho6 ⟨A6, c6, rfl⟩ hg6 hor6)
        have hpl : Blok w6 (w.heap.size + 1) 3 (numsV n pf2) := (hS0.1.alloc _).grown hg6 fun e => by have := hrow6 _ e; omega
        have hou : w6.ownsRow w.heap.size 22 1 (.slice (some ⟨ob, 0, none⟩) L.length cap2) L.length vs2 := own_grown (own_alloc hS0.2 _) hg6 fun k hk e => type_apart HA5.out.nest.outer HIn.out (by decide) k hk e.symm
        have hob1 := own_base HA5.out.nest.outer ob rfl
        have hobp : w.heap.size + 1 ≠ ob := fun e => by
          have h1 := HA5.out.place
          obtain ⟨_, hx⟩ := HA5.out.nest.outer
          rcases hx with ⟨hx, _⟩ | ⟨q', cap', cur, hx, _, hq', _⟩
          · cases hx
          · injection hx with hx _ _
            injection hx with hx
            injection hx with hx _ _
            subst hx
            unfold Blok at h1
            rw [e, hq'] at h1
            injection h1 with h1
            injection h1 with _ e3 _
            exact absurd e3 (by decide)
        have HE6 : Hid (Blok (w6.setCell ⟨ob, q, none⟩ (.slice A6 (l.length + 1) c6)) (w.heap.size + 1) 3 (numsV n pf2) ∧ UfS u g h n r (w6.setCell ⟨ob, q, none⟩ (.slice A6 (l.length + 1) c6)) ∧ Keep2 w (w6.setCell ⟨ob, q, none⟩ (.slice A6 (l.length + 1) c6)) g h) := Lib.hid (by
          have a := HA5.out
          refine ⟨hpl.far (p := ⟨ob, q, none⟩) hobp _, ((a.cls.on ((Grew.refl wc).drew.alloc _)).grown hg6 (fun i hi => ?_)).far (by omega) (by omega) (by omega) _, ((a.keep.on ((Grew.refl wc).drew.alloc _)).grown hg6 (fun i hi => ?_)).far hob1 _⟩
          · have := hrow6 i hi
            exact ⟨by omega, by omega, by omega⟩
          · have := hrow6 i hi
            omega)
        refine hK.out _ _ ⟨hpl, hou⟩ ?_
        clear hK K
        refine last_take 15 (v := ?_) rfl (by kernel_rfl) (by kernel_rfl) (by kernel_rfl) (by kernel_rfl) (fun _ _ _ h => h) (by rfl) ?_ ⟨hpl, hou⟩ ?_
        rotate_left
        · (intro W hW; go_simp; with_reducible rfl)
        refine last_norm (a' := ?_) ?_ ?_
        rotate_left
        · (go_simp; with_reducible rfl)
        have c5 := hou.cellAt q (by omega)
        rw [HV.out] at c5
        have z5 := hou.frozenAt q
        have l5 := World.ownsRow.lt hou ob rfl
        have HTl := Lib.hid HA5.out.tells
        clear hpl hou hS0 ho6 hg6 hor6 HA5 HIn HBi HBl HV HLq
        refine last_last (by kernel_rfl) (by kernel_rfl) rfl (by rfl) (fun K hK => ?_)
        go_simp
        go_wp2_with fail
        refine hK.out _ _ ?_
        clear hK K
        go_wp2
        refine ⟨⟨m + 1, some ⟨ob, 0, none⟩, cap2, vs2.set q (.slice A6 (l.length + 1) c6), pf2, by omega, by go_num, ?_, ?_⟩, by simp only [intOf]; omega⟩
        · rw [← HSet.out, List.length_set]
        · rw [← HSet.out, HQ.out]
          exact ⟨HP6.out, HE6.out.1, HTl.out, HE6.out.2.1, HE6.out.2.2⟩
    · obtain rfl : m = n := by omega
      go_wp2
      go_ret
      exact ⟨A, cap, rfl, HA.out.nest.read, HA.out.cls, HA.out.keep⟩
end Go.Proofs.Ytjohbaelponpeaa
