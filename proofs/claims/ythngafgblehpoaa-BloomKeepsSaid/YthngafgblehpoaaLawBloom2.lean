/- Layer 18: the law of what was put. Condition: numbers that lie in memory that is there. -/
import Derived.Test.YthngafgblehpoaaBloom6
import Derived.Test.YthngafgblehpoaaLawBloom
namespace Go.Proofs.Ythngafgblehpoaa
open Go.RowKit
attribute [local go_sem] more_cell more_frozen more_more more_setCell more_of_drew more_of_drewN lt_more le_more past_cell past_cell2 past_frozen past_frozen2 past_setCell past_setCell2 mid_cell mid_frozen mid_setCell
attribute [local go_sem ↓] Go.wp_at_zero Go.wp_at_succ

def AddF (w : World) (ws : List Nat) (n k : Nat) (e : Ending) (w' : World) : Prop := ∃ g c, e = .returned (.agg #[.slice (some ⟨g, 0, none⟩) n c, .int .i64 k]) ∧ (∃ x, w' = more w x) ∧ URow w' (some ⟨g, 0, none⟩) ws
theorem badd_to (n k g c : Nat) (h0 : 0 < n) (hl : n ≤ 1000000) (hk : k ≤ 5) (l : List Nat) (A : Option Addr) (m d : Nat) (hm : l.length = m) (hll : m ≤ 1000000) (hlo : wordsOk l) (w : World) (hr : URow w (some ⟨g, 0, none⟩) (List.replicate n 0)) (hrl : URow w A l) :
    Calls Try.prog 43 #[.agg #[.slice (some ⟨g, 0, none⟩) n c, .int .i64 k], .slice A m d] w (AddF w (addW (List.replicate n 0) k l) n k) := by
  subst hm
  refine (badd_any (List.replicate n 0) k n g c (by simp) h0 hl hk (ok_rep n) l A d hll hlo w hr hrl).mono ?_
  rintro e w' ⟨g2, c2, he, hG, hU⟩
  rw [addW_len, List.length_replicate] at he
  exact ⟨g2, c2, he, hG, hU⟩
def GrowAt (u : World) (n : Nat) (i : Value) (wr : World) : Prop := ∃ j : Nat, j ≤ n ∧ i = .int .i64 j ∧ Grew u wr
theorem cells2 {w : World} {g : Nat} {t : TypeId} {a b : Value} (h : Blok w g t #[a, b]) : g < w.heap.size ∧ w.cell? ⟨g, 0, none⟩ = some a ∧ w.cell? ⟨g, 1, none⟩ = some b := ⟨h.lt, h.cell 0, h.cell 1⟩
theorem urow_some {w : World} {A : Option Addr} {l : List Nat} {j : Nat} (h : URow w A l) (hj : j < l.length) : ∃ b o, A = some ⟨b, o, none⟩ := by
  rcases h with h1 | ⟨b, o, hA, _⟩
  · rw [List.map_eq_nil_iff] at h1
    subst h1
    simp at hj
  · exact ⟨b, o, hA⟩
set_option maxHeartbeats 4000000 in
set_option maxRecDepth 100000 in
theorem bloomKeeps_walk (m b0 : Int) (hm : 0 ≤ m) (hm' : m < 256) (hb : 0 ≤ b0) (hb' : b0 < 256) (a b : List Nat) (A B : Option Addr) (c d : Nat) (oa : wordsOk a) (ob : wordsOk b) (hsz : a.length ≤ 1000000000000000 ∧ b.length ≤ 1000000000000000) (w : World) (ra : URow w A a) (rb : URow w B b) :
    Gives Try.prog 9 #[.int .u8 m, .int .u8 b0, .slice A a.length c, .slice B b.length d] w (.bool true) := by
  unfold Gives
  have RA := Lib.hid ra
  have RB := Lib.hid rb
  have OA := Lib.hid oa
  have OB := Lib.hid ob
  clear ra rb oa ob
  obtain ⟨hsa, hsb⟩ := hsz
  by_cases hbig : 80 < a.length + b.length
  · go_enter Try.func9, Try.ntmps9
    go_wp2_with (first | (go_at_call 39; refine (live18_any _).mono ?_; rintro e w' ⟨rfl, x, rfl⟩))
    go_ret
    exact ⟨rfl, by (show Grew _ _; repeat (first | exact Grew.refl _ | refine Grew.alloc ?_ _ | refine Grew.drew ?_ | refine Grew.more ?_ _))⟩
  obtain ⟨n, hn⟩ : ∃ n, clampN (m % 20) 4096 = n := ⟨_, rfl⟩
  obtain ⟨k, hk⟩ : ∃ k, clampN (b0 % 7) 5 = k := ⟨_, rfl⟩
  have hn1 : 1 ≤ n ∧ n ≤ 19 := by subst hn; unfold clampN; (repeat' split) <;> omega
  have hk1 := clamp_le (b0 % 7) 5 (by decide)
  rw [hk] at hk1
  obtain ⟨n1, n2⟩ := hn1
  obtain ⟨k2, k1⟩ := hk1
  have HN : Hid (∀ W, Calls Try.prog 41 #[.int .i64 (m % 20), .int .i64 (b0 % 7)] W (NewF W n k)) := Lib.hid fun W => bnew_to _ _ _ _ hn hk W
  obtain ⟨FA, hFA⟩ : ∃ F, addW (List.replicate n 0) k a = F := ⟨_, rfl⟩
  obtain ⟨FB, hFB⟩ : ∃ F, addW (List.replicate n 0) k b = F := ⟨_, rfl⟩
  obtain ⟨F, hF⟩ : ∃ F, addW (List.replicate n 0) k (b ++ a) = F := ⟨_, rfl⟩
  have lFA : FA.length = n := by rw [← hFA, addW_len]; simp
  have lFB : FB.length = n := by rw [← hFB, addW_len]; simp
  have lF : F.length = n := by rw [← hF, addW_len]; simp
  have oFA : wordsOk FA := by rw [← hFA]; exact addW_ok k _ (ok_rep n)
  have oFB : wordsOk FB := by rw [← hFB]; exact addW_ok k _ (ok_rep n)
  have oF : wordsOk F := by rw [← hF]; exact addW_ok k _ (ok_rep n)
  have eU : unionW FA FB = F := by rw [← hFA, ← hFB, union_all n k (by omega), hF]
  have eV : unionW FB FA = F := by rw [unionW_comm FB FA (by omega), eU]
  have hHA : ∀ x, x ∈ a → hasN FA k x = true := fun x hx => by rw [← hFA]; exact has_added n k (by omega) a x hx
  have hHF : ∀ x, x ∈ a → hasN F k x = true := fun x hx => by rw [← hF]; exact has_added n k (by omega) _ x (by simp [hx])
  have oba : wordsOk (b ++ a) := fun x hx => (List.mem_append.1 hx).elim (OB.out x) (OA.out x)
  have lba : (b ++ a).length = b.length + a.length := List.length_append
  have HAa : Hid (∀ W g c c0, URow W (some ⟨g, 0, none⟩) (List.replicate n 0) → URow W A a → Calls Try.prog 43 #[.agg #[.slice (some ⟨g, 0, none⟩) n c, .int .i64 k], .slice A a.length c0] W (AddF W FA n k)) := Lib.hid fun W g c c0 h1 h2 => by rw [← hFA]; exact badd_to n k g c (by omega) (by omega) (by omega) a A _ _ rfl (by omega) OA.out W h1 h2

  have HAb : Hid (∀ W g c c0, URow W (some ⟨g, 0, none⟩) (List.replicate n 0) → URow W B b → Calls Try.prog 43 #[.agg #[.slice (some ⟨g, 0, none⟩) n c, .int .i64 k], .slice B b.length c0] W (AddF W FB n k)) := Lib.hid fun W g c c0 h1 h2 => by rw [← hFB]; exact badd_to n k g c (by omega) (by omega) (by omega) b B _ _ rfl (by omega) OB.out W h1 h2
  have HAc : Hid (∀ W g c A3 c0, URow W (some ⟨g, 0, none⟩) (List.replicate n 0) → URow W A3 (b ++ a) → Calls Try.prog 43 #[.agg #[.slice (some ⟨g, 0, none⟩) n c, .int .i64 k], .slice A3 (b.length + a.length) c0] W (AddF W F n k)) := Lib.hid fun W g c A3 c0 h1 h2 => by rw [← hF]; exact badd_to n k g c (by omega) (by omega) (by omega) (b ++ a) A3 _ _ lba (by omega) oba W h1 h2
  have HU1 : Hid (∀ W ga c gb d, URow W (some ⟨ga, 0, none⟩) FA → URow W (some ⟨gb, 0, none⟩) FB → Calls Try.prog 50 #[.agg #[.slice (some ⟨ga, 0, none⟩) n c, .int .i64 k], .agg #[.slice (some ⟨gb, 0, none⟩) n d, .int .i64 k]] W (UnionF W F n k)) := Lib.hid fun W ga c gb d h1 h2 => by rw [← eU]; exact union_any FA FB n k ga c gb d lFA lFB (by omega) (by omega) oFA oFB W h1 h2
  have HU2 : Hid (∀ W ga c gb d, URow W (some ⟨ga, 0, none⟩) FB → URow W (some ⟨gb, 0, none⟩) FA → Calls Try.prog 50 #[.agg #[.slice (some ⟨ga, 0, none⟩) n c, .int .i64 k], .agg #[.slice (some ⟨gb, 0, none⟩) n d, .int .i64 k]] W (UnionF W F n k)) := Lib.hid fun W ga c gb d h1 h2 => by rw [← eV]; exact union_any FB FA n k ga c gb d lFB lFA (by omega) (by omega) oFB oFA W h1 h2
  have HHA : Hid (∀ W x g c, x ∈ a → URow W (some ⟨g, 0, none⟩) FA → Gives Try.prog 48 #[.agg #[.slice (some ⟨g, 0, none⟩) n c, .int .i64 k], .int .u64 (x : Int)] W (.bool true)) := Lib.hid fun W x g c hx h1 => bhas_to FA k x n g c lFA (OA.out x hx) (by omega) (by omega) (by omega) oFA true (hHA x hx) W h1
  have HHF : Hid (∀ W x g c, x ∈ a → URow W (some ⟨g, 0, none⟩) F → Gives Try.prog 48 #[.agg #[.slice (some ⟨g, 0, none⟩) n c, .int .i64 k], .int .u64 (x : Int)] W (.bool true)) := Lib.hid fun W x g c hx h1 => bhas_to F k x n g c lF (OA.out x hx) (by omega) (by omega) (by omega) oF true (hHF x hx) W h1
  have HWo : Hid (∀ W g c, URow W (some ⟨g, 0, none⟩) F → Calls Try.prog 40 #[.agg #[.slice (some ⟨g, 0, none⟩) n c, .int .i64 k]] W (WordsF W F n)) := Lib.hid fun W g c h1 => words_to F _ n g c lF (by omega) (by omega) W h1
  have LF := Lib.hid lF
  clear hn hk hFA hFB hF lFA lFB lF oFA oFB oF eU eV hHA hHF oba lba
  go_enter Try.func9, Try.ntmps9
  go_upto_region 4 with fail
  go_cut [11] (fun p wx => ∃ g11 r11 c11, p = .pointer (some ⟨g11, 0, none⟩) ∧ Blok wx g11 65 #[.slice (some ⟨r11, 0, none⟩) n c11, .int .i64 k] ∧ URow wx (some ⟨r11, 0, none⟩) FA ∧ Grew w wx)
  case first =>
    go_wp2_with fail
    refine (HN.out _).mono ?_
    rintro e w1 ⟨gn, cn, rfl, ⟨xn, rfl⟩, hU⟩
    have HUn := Lib.hid hU
    clear hU
    go_wp2_with fail
    refine (HAa.out _ _ _ _ HUn.out (RA.out.grew ⟨_, rfl⟩)).mono ?_
    rintro e w2 ⟨gm, cm, rfl, hGm, hUm⟩
    have HGG := Lib.hid (Grew.trans (by (show Grew _ _; repeat (first | exact Grew.refl _ | refine Grew.alloc ?_ _ | refine Grew.drew ?_ | refine Grew.more ?_ _)) : Grew w _) hGm)
    have HRR := Lib.hid hUm
    clear hGm hUm
    go_wp2_with fail
    go_meet
    exact ⟨_, _, _, rfl, Blok.new _ _ _ _ (by simp), HRR.out.grew ((Grew.refl _).alloc _), Grew.alloc HGG.out _⟩
  case rest =>
    obtain ⟨g11, r11, c11, rfl, hB, hU, hgw⟩ := hcut
    have B11 := Lib.hid hB
    have R11 := Lib.hid hU
    have HG := Lib.hid hgw
    clear hB hU hgw
    obtain ⟨wp, hwp⟩ : ∃ wp : World, wp = wc := ⟨_, rfl⟩
    subst hwp
    go_upto_region 5 with fail
    obtain ⟨pl11, qa11, qb11⟩ := cells2 B11.out
    go_cut [12] (fun p wx => ∃ g12 r12 c12, p = .pointer (some ⟨g12, 0, none⟩) ∧ Blok wx g12 65 #[.slice (some ⟨r12, 0, none⟩) n c12, .int .i64 k] ∧ URow wx (some ⟨r12, 0, none⟩) FB ∧ Grew wp wx)
    case first =>
      go_wp2_with fail
      refine (HN.out _).mono ?_
      rintro e w1 ⟨gn, cn, rfl, ⟨xn, rfl⟩, hU⟩
      have HUn := Lib.hid hU
      clear hU
      go_wp2_with fail
      refine (HAb.out _ _ _ _ HUn.out (RB.out.grew (HG.out.trans ⟨_, rfl⟩))).mono ?_
      rintro e w2 ⟨gm, cm, rfl, hGm, hUm⟩
      have HGG := Lib.hid (Grew.trans (by (show Grew _ _; repeat (first | exact Grew.refl _ | refine Grew.alloc ?_ _ | refine Grew.drew ?_ | refine Grew.more ?_ _)) : Grew wp _) hGm)
      have HRR := Lib.hid hUm
      clear hGm hUm
      go_wp2_with fail
      go_meet
      exact ⟨_, _, _, rfl, Blok.new _ _ _ _ (by simp), HRR.out.grew ((Grew.refl _).alloc _), Grew.alloc HGG.out _⟩
    case rest =>
      obtain ⟨g12, r12, c12, rfl, hB, hU, hgw⟩ := hcut
      clear pl11 qa11 qb11
      have B11 := Lib.hid (B11.out.grew hgw)
      have R11 := Lib.hid (R11.out.grew hgw)
      have B12 := Lib.hid hB
      have R12 := Lib.hid hU
      have HG := Lib.hid (HG.out.trans hgw)
      clear hB hU hgw
      obtain ⟨wp, hwp⟩ : ∃ wp : World, wp = wc := ⟨_, rfl⟩
      subst hwp
      go_upto_region 6 with fail
      obtain ⟨pl11, qa11, qb11⟩ := cells2 B11.out
      obtain ⟨pl12, qa12, qb12⟩ := cells2 B12.out
      go_cut [13, 14] (fun p er wx => ∃ g13 r13 c13, p = .pointer (some ⟨g13, 0, none⟩) ∧ er = .int .i64 0 ∧ Blok wx g13 65 #[.slice (some ⟨r13, 0, none⟩) n c13, .int .i64 k] ∧ URow wx (some ⟨r13, 0, none⟩) F ∧ Grew wp wx)
      case first =>
        go_wp2_with fail
        refine (HU1.out _ _ _ _ _ R11.out R12.out).mono ?_
        rintro e w2 ⟨gm, cm, rfl, hGm, hUm⟩
        have HGG : Hid (Grew wp w2) := Lib.hid hGm
        have HRR := Lib.hid hUm
        clear hGm hUm
        go_wp2_with fail
        go_meet
        exact ⟨_, _, _, rfl, rfl, Blok.new _ _ _ _ (by simp), HRR.out.grew ((Grew.refl _).alloc _), Grew.alloc HGG.out _⟩
      case rest =>
        obtain ⟨g13, r13, c13, rfl, rfl, hB, hU, hgw⟩ := hcut
        clear pl11 qa11 qb11
        have B11 := Lib.hid (B11.out.grew hgw)
        have R11 := Lib.hid (R11.out.grew hgw)
        clear pl12 qa12 qb12
        have B12 := Lib.hid (B12.out.grew hgw)
        have R12 := Lib.hid (R12.out.grew hgw)
        have B13 := Lib.hid hB
        have R13 := Lib.hid hU
        have HG := Lib.hid (HG.out.trans hgw)
        clear hB hU hgw
        obtain ⟨wp, hwp⟩ : ∃ wp : World, wp = wc := ⟨_, rfl⟩
        subst hwp
        go_upto_region 7 with fail
        obtain ⟨pl11, qa11, qb11⟩ := cells2 B11.out
        obtain ⟨pl12, qa12, qb12⟩ := cells2 B12.out
        obtain ⟨pl13, qa13, qb13⟩ := cells2 B13.out
        go_cut [15, 16] (fun p er wx => ∃ g15 r15 c15, p = .pointer (some ⟨g15, 0, none⟩) ∧ er = .int .i64 0 ∧ Blok wx g15 65 #[.slice (some ⟨r15, 0, none⟩) n c15, .int .i64 k] ∧ URow wx (some ⟨r15, 0, none⟩) F ∧ Grew wp wx)
        case first =>
          go_wp2_with fail
          refine (HU2.out _ _ _ _ _ R12.out R11.out).mono ?_
          rintro e w2 ⟨gm, cm, rfl, hGm, hUm⟩
          have HGG : Hid (Grew wp w2) := Lib.hid hGm
          have HRR := Lib.hid hUm
          clear hGm hUm
          go_wp2_with fail
          go_meet
          exact ⟨_, _, _, rfl, rfl, Blok.new _ _ _ _ (by simp), HRR.out.grew ((Grew.refl _).alloc _), Grew.alloc HGG.out _⟩
        case rest =>
          obtain ⟨g15, r15, c15, rfl, rfl, hB, hU, hgw⟩ := hcut
          clear pl11 qa11 qb11
          have B11 := Lib.hid (B11.out.grew hgw)
          have R11 := Lib.hid (R11.out.grew hgw)
          clear pl12 qa12 qb12
          have B12 := Lib.hid (B12.out.grew hgw)
          have R12 := Lib.hid (R12.out.grew hgw)
          clear pl13 qa13 qb13
          have B13 := Lib.hid (B13.out.grew hgw)
          have R13 := Lib.hid (R13.out.grew hgw)
          have B15 := Lib.hid hB
          have R15 := Lib.hid hU
          have HG := Lib.hid (HG.out.trans hgw)
          clear hB hU hgw
          obtain ⟨wp, hwp⟩ : ∃ wp : World, wp = wc := ⟨_, rfl⟩
          subst hwp
          go_upto_region 8 with fail
          obtain ⟨pl11, qa11, qb11⟩ := cells2 B11.out
          obtain ⟨pl12, qa12, qb12⟩ := cells2 B12.out
          obtain ⟨pl13, qa13, qb13⟩ := cells2 B13.out
          obtain ⟨pl15, qa15, qb15⟩ := cells2 B15.out
          go_cut [17] (fun p wx => ∃ g17 r17 c17, p = .pointer (some ⟨g17, 0, none⟩) ∧ Blok wx g17 65 #[.slice (some ⟨r17, 0, none⟩) n c17, .int .i64 k] ∧ URow wx (some ⟨r17, 0, none⟩) F ∧ Grew wp wx)
          case first =>
            go_wp2_with fail
            refine (HN.out _).mono ?_
            rintro e w1 ⟨gn, cn, rfl, ⟨xn, rfl⟩, hU⟩
            have HUn := Lib.hid hU
            clear hU
            go_wp2_with (first | (at_builtin; refine wpList_app rfl (.tmp 61) (.tmp 62) 61 62 rfl (more wp xn) _ 8 Try.underlying61 infoU rfl (by decide) _ 0 [] rfl (own_empty _ _ _ _ _ rfl (Nat.le_refl _)) B b.length d (uV b) rfl (by simp [uV]) (RB.out.grew (HG.out.trans ((Grew.more (Grew.refl wp) xn).alloc _))) (uV_one b) (by omega) ((Grew.refl _).alloc _) ?_))
            intro A1 c1 w2 ho1 _ hg1 _ _
            have HO1 := Lib.hid ho1
            have HG1 := Lib.hid hg1
            clear ho1 hg1
            go_wp2_with (first | (at_builtin; refine wpList_app rfl (.tmp 63) (.tmp 64) 61 62 rfl (more wp xn) _ 8 Try.underlying61 infoU rfl (by decide) _ _ _ rfl HO1.out A a.length c (uV a) rfl (by simp [uV]) (RA.out.grew (HG.out.trans ((Grew.more (Grew.refl wp) xn).trans HG1.out))) (uV_one a) (by omega) HG1.out ?_))
            intro A3 c3 w3 ho3 hr3 hg3 _ _
            have HR3 : Hid (URow w3 A3 (b ++ a)) := Lib.hid (by have h := hr3; simpa [URow, uV, List.map_append] using h)
            have HG3 := Lib.hid hg3
            clear ho3 hr3 hg3
            go_wp2_with fail
            refine (HAc.out _ _ _ _ _ (HUn.out.grew HG3.out) HR3.out).mono ?_
            rintro e w4 ⟨gm, cm, rfl, hGm, hUm⟩
            have HGG : Hid (Grew wp w4) := Lib.hid ((Grew.more (Grew.refl wp) xn).trans (HG3.out.trans hGm))
            have HRR := Lib.hid hUm
            clear hGm hUm
            go_wp2_with fail
            go_meet
            exact ⟨_, _, _, rfl, Blok.new _ _ _ _ (by simp), HRR.out.grew ((Grew.refl _).alloc _), Grew.alloc HGG.out _⟩
          case rest =>
            obtain ⟨g17, r17, c17, rfl, hB, hU, hgw⟩ := hcut
            clear pl11 qa11 qb11
            have B11 := Lib.hid (B11.out.grew hgw)
            have R11 := Lib.hid (R11.out.grew hgw)
            clear pl12 qa12 qb12
            have B12 := Lib.hid (B12.out.grew hgw)
            have R12 := Lib.hid (R12.out.grew hgw)
            clear pl13 qa13 qb13
            have B13 := Lib.hid (B13.out.grew hgw)
            have R13 := Lib.hid (R13.out.grew hgw)
            clear pl15 qa15 qb15
            have B15 := Lib.hid (B15.out.grew hgw)
            have R15 := Lib.hid (R15.out.grew hgw)
            have B17 := Lib.hid hB
            have R17 := Lib.hid hU
            have HG := Lib.hid (HG.out.trans hgw)
            clear hB hU hgw
            obtain ⟨wp, hwp⟩ : ∃ wp : World, wp = wc := ⟨_, rfl⟩
            subst hwp
            clear HU1 HU2 HAa HAb HAc HN B12 R12
            go_wp2_with (first | (go_at_call 51; (with_reducible refine (code18_any _ _).mono ?_); rintro e w' ⟨rfl, hw⟩; have hw := hw.symm; subst hw))
            go_loopw [18] (fun i wr => GrowAt wp a.length i wr) (fun i _ => a.length - (intOf i).toNat)
            case atStart => exact ⟨0, Nat.zero_le _, rfl, Grew.refl _⟩
            case round =>
              obtain ⟨j, hj, rfl, hg⟩ := hrel
              have HGJ := Lib.hid hg
              clear hg
              by_cases h : j < a.length
              · obtain ⟨bb, oo, rfl⟩ := urow_some RA.out h
                obtain ⟨hbb, d0⟩ := urow_cell (RA.out.grew (HG.out.trans HGJ.out)) h rfl
                have HX := Lib.hid (List.getElem_mem h)
                obtain ⟨pl11, qa11, qb11⟩ := cells2 (B11.out.grew HGJ.out)
                obtain ⟨pl13, qa13, qb13⟩ := cells2 (B13.out.grew HGJ.out)
                have R11w := Lib.hid (R11.out.grew HGJ.out)
                have R13w := Lib.hid (R13.out.grew HGJ.out)
                generalize a[j] = x at *
                go_wp2
                refine wp_region_more (by kernel_rfl) (by kernel_rfl) ?_
                repeat (go_big_quiet_step ((first | (go_at_call_of 48 (Value.slice (some (Addr.mk r11 0 none)) n c11); exact (HHA.out _ x _ _ HX.out (R11w.out.grew ⟨_, rfl⟩)).within) | (go_at_call_of 48 (Value.slice (some (Addr.mk r13 0 none)) n c13); exact (HHF.out _ x _ _ HX.out (R13w.out.grew ⟨_, rfl⟩)).within))))
                refine wpQuiet_nil ?_
                rintro _ ⟨z, rfl⟩
                go_wp2
                refine ⟨⟨j + 1, by omega, by go_num, HGJ.out.more _⟩, by simp only [intOf]; omega⟩
              · obtain rfl : j = a.length := by omega
                have B13 := Lib.hid (B13.out.grew HGJ.out)
                have B15 := Lib.hid (B15.out.grew HGJ.out)
                have B17 := Lib.hid (B17.out.grew HGJ.out)
                have R13 := Lib.hid (R13.out.grew HGJ.out)
                have R15 := Lib.hid (R15.out.grew HGJ.out)
                have R17 := Lib.hid (R17.out.grew HGJ.out)
                have HG := Lib.hid (HG.out.trans HGJ.out)
                clear B11 R11 HHA HHF HGJ
                obtain ⟨pl13, qa13, qb13⟩ := cells2 B13.out
                obtain ⟨pl15, qa15, qb15⟩ := cells2 B15.out
                obtain ⟨pl17, qa17, qb17⟩ := cells2 B17.out
                have HS : Hid (∀ W, Grew wr W → (W.cell? ⟨g13, 0, none⟩ = some (.slice (some ⟨r13, 0, none⟩) n c13) ∧ W.cell? ⟨g13, 1, none⟩ = some (.int .i64 k)) ∧ (W.cell? ⟨g15, 0, none⟩ = some (.slice (some ⟨r15, 0, none⟩) n c15) ∧ W.cell? ⟨g15, 1, none⟩ = some (.int .i64 k)) ∧ (W.cell? ⟨g17, 0, none⟩ = some (.slice (some ⟨r17, 0, none⟩) n c17) ∧ W.cell? ⟨g17, 1, none⟩ = some (.int .i64 k))) := Lib.hid fun W hW => ⟨⟨(B13.out.grew hW).cell 0, (B13.out.grew hW).cell 1⟩, ⟨(B15.out.grew hW).cell 0, (B15.out.grew hW).cell 1⟩, ⟨(B17.out.grew hW).cell 0, (B17.out.grew hW).cell 1⟩⟩
                go_upto_region 16 with fail
                go_cut [19, 20, 21] (fun p q s wx => ∃ x1 k1 x2 k2 x3 k3, p = .slice (some ⟨x1, 0, none⟩) n k1 ∧ q = .slice (some ⟨x2, 0, none⟩) n k2 ∧ s = .slice (some ⟨x3, 0, none⟩) n k3 ∧ URow wx (some ⟨x1, 0, none⟩) F ∧ URow wx (some ⟨x2, 0, none⟩) F ∧ URow wx (some ⟨x3, 0, none⟩) F ∧ Grew wr wx)
                case first =>
                  go_region_held3 (fun W => (W.cell? ⟨g13, 0, none⟩ = some (.slice (some ⟨r13, 0, none⟩) n c13) ∧ W.cell? ⟨g13, 1, none⟩ = some (.int .i64 k)) ∧ (W.cell? ⟨g15, 0, none⟩ = some (.slice (some ⟨r15, 0, none⟩) n c15) ∧ W.cell? ⟨g15, 1, none⟩ = some (.int .i64 k)) ∧ (W.cell? ⟨g17, 0, none⟩ = some (.slice (some ⟨r17, 0, none⟩) n c17) ∧ W.cell? ⟨g17, 1, none⟩ = some (.int .i64 k))) (first | go_keep | (refine HS.out _ ?_; repeat (first | exact Grew.refl _ | apply Grew.more | apply Grew.alloc | apply Grew.drew)))
                    (first
                      | (go_at_call_of 40 (Value.slice (some (Addr.mk r13 0 none)) n c13); (with_reducible refine (HWo.out _ _ _ (by exact R13.out.grew (by repeat (first | exact Grew.refl _ | apply Grew.more | apply Grew.alloc | apply Grew.drew)))).mono ?_); rintro e w' ⟨y13, d13, rfl, ⟨z13, rfl⟩, hU13⟩; have U13 := Lib.hid hU13; clear hU13)
                      | (go_at_call_of 40 (Value.slice (some (Addr.mk r15 0 none)) n c15); (with_reducible refine (HWo.out _ _ _ (by exact R15.out.grew (by repeat (first | exact Grew.refl _ | apply Grew.more | apply Grew.alloc | apply Grew.drew)))).mono ?_); rintro e w' ⟨y15, d15, rfl, ⟨z15, rfl⟩, hU15⟩; have U15 := Lib.hid hU15; clear hU15)
                      | (go_at_call_of 40 (Value.slice (some (Addr.mk r17 0 none)) n c17); (with_reducible refine (HWo.out _ _ _ (by exact R17.out.grew (by repeat (first | exact Grew.refl _ | apply Grew.more | apply Grew.alloc | apply Grew.drew)))).mono ?_); rintro e w' ⟨y17, d17, rfl, ⟨z17, rfl⟩, hU17⟩; have U17 := Lib.hid hU17; clear hU17))
                  all_goals
                    go_wp2_with fail
                    go_meet
                    exact ⟨y13, d13, y15, d15, y17, d17, rfl, rfl, rfl, U13.out.grew ⟨z15.join z17, (by rw [more_more, Xs.join_join] : more wr ((z13.join z15).join z17) = more (more wr z13) (z15.join z17))⟩, U15.out.grew ⟨z17, (by rw [more_more, more_more, Xs.join_join] : more wr ((z13.join z15).join z17) = more (more (more wr z13) z15) z17)⟩, by rw [← more_more]; exact U17.out, (by repeat (first | exact Grew.refl _ | apply Grew.more | apply Grew.alloc | apply Grew.drew))⟩
                case rest =>
                  obtain ⟨x1, k1, x2, k2, x3, k3, rfl, rfl, rfl, u1, u2, u3, hgw⟩ := hcut
                  have U1 := Lib.hid u1
                  have U2 := Lib.hid u2
                  have U3 := Lib.hid u3
                  have HG := Lib.hid (HG.out.trans hgw)
                  clear u1 u2 u3 hgw HS HWo B13 B15 B17 R13 R15 R17
                  have en : ((n : Int) != (n : Int)) = false := by simp
                  obtain ⟨wq, hwq⟩ : ∃ wq : World, wq = wc := ⟨_, rfl⟩
                  subst hwq
                  go_wp2
                  go_loopw [22] (fun i wr => GrowAt wq n i wr) (fun i _ => n - (intOf i).toNat)
                  case atStart => exact ⟨0, Nat.zero_le _, rfl, Grew.refl _⟩
                  case round =>
                    obtain ⟨j2, hj2, rfl, hg2⟩ := hrel
                    have HGJ := Lib.hid hg2
                    clear hg2
                    by_cases h2 : j2 < n
                    · have hjF : j2 < F.length := by have := LF.out; omega
                      obtain ⟨pb1, d1⟩ := urow_cell (U1.out.grew HGJ.out) hjF rfl
                      obtain ⟨pb2, d2⟩ := urow_cell (U2.out.grew HGJ.out) hjF rfl
                      obtain ⟨pb3, d3⟩ := urow_cell (U3.out.grew HGJ.out) hjF rfl
                      rw [Nat.zero_add] at d1 d2 d3
                      generalize F[j2] = v at *
                      have ev : ((v : Int) != (v : Int)) = false := by simp
                      go_wp2
                      refine wp_region_more (by kernel_rfl) (by kernel_rfl) ?_
                      repeat (go_big_quiet_step ((fail)))
                      refine wpQuiet_nil ?_
                      rintro _ ⟨z, rfl⟩
                      go_wp2
                      refine ⟨⟨j2 + 1, by omega, by go_num, HGJ.out.more _⟩, by simp only [intOf]; omega⟩
                    · obtain rfl : j2 = n := by omega
                      go_wp2_with (first | (go_at_call 39; refine (live18_any _).mono ?_; rintro e w6 ⟨rfl, hl6⟩))
                      go_ret
                      exact ⟨rfl, (HG.out.trans HGJ.out).trans hl6⟩
end Go.Proofs.Ythngafgblehpoaa
