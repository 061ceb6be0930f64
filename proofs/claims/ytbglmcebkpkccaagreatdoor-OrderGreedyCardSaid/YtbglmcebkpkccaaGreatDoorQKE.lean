/- Layer 29: the law of the share of rows for which an expression may be true. Condition: an expression, and what is said of tables, in memory that is there; the turned signs as they are laid. -/
import Derived.Test.YtbglmcebkpkccaaGreatDoorQKD
import Derived.Test.YtbglmcebkpkccaaGreatDoorQT2
import Derived.Test.YtbglmcebkpkccaaGreatDoorQKB
import Derived.Test.YtbglmcebkpkccaaGreatDoorFrame2
import Derived.Lib.LaidTab

/- Layer 29: the share of rows for which an expression may be true, by the document: all but the comparisons. Condition: no more than a million columns and marks, what is said in memory that is there. -/
namespace Go.Proofs.YtbglmcebkpkccaaGreatDoor
open Go.RowKit
attribute [local go_sem] more_cell more_frozen more_more more_setCell more_of_drew more_of_drewN lt_more le_more past_cell past_cell2 past_frozen past_frozen2 past_setCell past_setCell2 mid_cell mid_frozen mid_setCell
attribute [local go_sem] fldC0 fldC1 fldS0
attribute [local go_sem ↓] Go.wp_at_zero Go.wp_at_succ

set_option maxHeartbeats 4000000 in
set_option maxRecDepth 100000 in
theorem rsh_and (l : List Sst) (x : Ex) (Ax : Option Addr) (kx : Nat) (A : Option Addr) (k : Nat) (w : World) (a : Ex) (b o : Nat) (B : Option Addr) (ka : Nat) (hA : Ax = some ⟨b, o, none⟩) (hsh : ∀ W, Grew w W → Gives Tryz.prog 41 #[exV a B ka, .slice A l.length k] W (.float .f64 (shareK (heldAll l) a))) (h9 : At9 w b o a B ka) (a' : Ex) (B' : Option Addr) (ka' : Nat) (hsh' : ∀ W, Grew w W → Gives Tryz.prog 41 #[exV a' B' ka', .slice A l.length k] W (.float .f64 (shareK (heldAll l) a'))) (h9' : At9 w b (o + 9) a' B' ka') (hlen : x.l.length = 2) (hop : x.op = 10) :
    Gives Tryz.prog 41 #[exV x Ax kx, .slice A l.length k] w (.float .f64 (andF [shareK (heldAll l) a, shareK (heldAll l) a'] 4607182418800017408)) := by
  have ha := shareK_le (heldAll l) a
  have hb := shareK_le (heldAll l) a'
  have HOr : Hid (∀ W, Calls Tryz.prog 79 #[.float .f64 (shareK (heldAll l) a), .float .f64 (shareK (heldAll l) a')] W fun e w' => e = .returned (.float .f64 (orB (shareK (heldAll l) a) (shareK (heldAll l) a'))) ∧ w' = W) := Lib.hid fun W => fo_ror_any _ _ (by omega) (by omega) W
  subst hA
  obtain ⟨W0, hW0⟩ : ∃ W0, W0 = w.alloc (.cells (exC x (some ⟨b, o, none⟩) kx).toArray 27) := ⟨_, rfl⟩
  have HG0 : Hid (Grew w W0) := Lib.hid (by rw [hW0]; exact (Grew.refl w).alloc _)
  have HX0 : Hid (Blok W0 w.heap.size 27 (exC x (some ⟨b, o, none⟩) kx).toArray) := Lib.hid (by rw [hW0]; exact Blok.new _ _ _ _ rfl)
  obtain ⟨x0, m0, m1, m2, m3, m4, m5, m6, m7, m8⟩ := blok9 HX0.out
  have H9 := Lib.hid h9
  obtain ⟨y0, n0, n1, n2, n3, n4, n5, n6, n7, n8⟩ := h9.grew HG0.out
  have HSh := Lib.hid hsh
  have H9' := Lib.hid h9'
  obtain ⟨z0, p0, p1, p2, p3, p4, p5, p6, p7, p8⟩ := h9'.grew HG0.out
  have HSh' := Lib.hid hsh'
  have f0 : (x.op == 10) = true := by rw [hop]; rfl
  clear h9 h9' hsh hsh' hop
  generalize shareK (heldAll l) a = qa at *
  generalize shareK (heldAll l) a' = qb at *
  clear HOr
  unfold exV at *
  unfold exC at hW0
  rw [hlen] at hW0 m8 ⊢
  have HL := Lib.hid hlen
  clear hlen
  unfold Gives
  go_enter Tryz.func41, Tryz.ntmps41
  go_upto_region 1 with fail
  rw [← hW0]
  clear hW0
  go_wp2_with fail
  clear x0 m0 m1 m2 m3 m4 m5 m6 m7 m8 y0 n0 n1 n2 n3 n4 n5 n6 n7 n8 z0 p0 p1 p2 p3 p4 p5 p6 p7 p8
  have hS0 : Grew W0 W0.drew := (Grew.refl W0).drew
  refine wp_region_S (fun W => Grew W0 W) (by kernel_rfl) ?_
  refine held_take 0 (v := ?_) rfl (by kernel_rfl) (by kernel_rfl) (by kernel_rfl) (fun _ _ _ h => h) (by rfl) ?_ hS0 ?_
  rotate_left
  · (intro W hW; obtain ⟨x0, m0, m1, m2, m3, m4, m5, m6, m7, m8⟩ := blok9 (HX0.out.grew hW); rw [HL.out] at m8; obtain ⟨y0, n0, n1, n2, n3, n4, n5, n6, n7, n8⟩ := H9.out.grew (HG0.out.trans hW); obtain ⟨z0, p0, p1, p2, p3, p4, p5, p6, p7, p8⟩ := H9'.out.grew (HG0.out.trans hW); go_simp; with_reducible rfl)
  refine held_take 1 (v := ?_) rfl (by kernel_rfl) (by kernel_rfl) (by kernel_rfl) (fun _ _ _ h => h) (by rfl) ?_ hS0 ?_
  rotate_left
  · (intro W hW; obtain ⟨x0, m0, m1, m2, m3, m4, m5, m6, m7, m8⟩ := blok9 (HX0.out.grew hW); rw [HL.out] at m8; obtain ⟨y0, n0, n1, n2, n3, n4, n5, n6, n7, n8⟩ := H9.out.grew (HG0.out.trans hW); obtain ⟨z0, p0, p1, p2, p3, p4, p5, p6, p7, p8⟩ := H9'.out.grew (HG0.out.trans hW); go_simp; with_reducible rfl)
  refine held_take 2 (v := ?_) rfl (by kernel_rfl) (by kernel_rfl) (by kernel_rfl) (fun _ _ _ h => h) (by rfl) ?_ hS0 ?_
  rotate_left
  · (intro W hW; obtain ⟨x0, m0, m1, m2, m3, m4, m5, m6, m7, m8⟩ := blok9 (HX0.out.grew hW); rw [HL.out] at m8; obtain ⟨y0, n0, n1, n2, n3, n4, n5, n6, n7, n8⟩ := H9.out.grew (HG0.out.trans hW); obtain ⟨z0, p0, p1, p2, p3, p4, p5, p6, p7, p8⟩ := H9'.out.grew (HG0.out.trans hW); go_simp; with_reducible rfl)
  refine held_take 3 (v := ?_) rfl (by kernel_rfl) (by kernel_rfl) (by kernel_rfl) (fun _ _ _ h => h) (by rfl) ?_ hS0 ?_
  rotate_left
  · (intro W hW; obtain ⟨x0, m0, m1, m2, m3, m4, m5, m6, m7, m8⟩ := blok9 (HX0.out.grew hW); rw [HL.out] at m8; obtain ⟨y0, n0, n1, n2, n3, n4, n5, n6, n7, n8⟩ := H9.out.grew (HG0.out.trans hW); obtain ⟨z0, p0, p1, p2, p3, p4, p5, p6, p7, p8⟩ := H9'.out.grew (HG0.out.trans hW); go_simp; with_reducible rfl)
  refine held_take 4 (v := ?_) rfl (by kernel_rfl) (by kernel_rfl) (by kernel_rfl) (fun _ _ _ h => h) (by rfl) ?_ hS0 ?_
  rotate_left
  · (intro W hW; obtain ⟨x0, m0, m1, m2, m3, m4, m5, m6, m7, m8⟩ := blok9 (HX0.out.grew hW); rw [HL.out] at m8; obtain ⟨y0, n0, n1, n2, n3, n4, n5, n6, n7, n8⟩ := H9.out.grew (HG0.out.trans hW); obtain ⟨z0, p0, p1, p2, p3, p4, p5, p6, p7, p8⟩ := H9'.out.grew (HG0.out.trans hW); go_simp; with_reducible rfl)
  refine held_take 6 (v := ?_) rfl (by kernel_rfl) (by kernel_rfl) (by kernel_rfl) (fun _ _ _ h => h) (by rfl) ?_ hS0 ?_
  rotate_left
  · (intro W hW; obtain ⟨x0, m0, m1, m2, m3, m4, m5, m6, m7, m8⟩ := blok9 (HX0.out.grew hW); rw [HL.out] at m8; obtain ⟨y0, n0, n1, n2, n3, n4, n5, n6, n7, n8⟩ := H9.out.grew (HG0.out.trans hW); obtain ⟨z0, p0, p1, p2, p3, p4, p5, p6, p7, p8⟩ := H9'.out.grew (HG0.out.trans hW); go_simp; with_reducible rfl)
  refine held_take 7 (v := ?_) rfl (by kernel_rfl) (by kernel_rfl) (by kernel_rfl) (fun _ _ _ h => h) (by rfl) ?_ hS0 ?_
  rotate_left
  · (intro W hW; obtain ⟨x0, m0, m1, m2, m3, m4, m5, m6, m7, m8⟩ := blok9 (HX0.out.grew hW); rw [HL.out] at m8; obtain ⟨y0, n0, n1, n2, n3, n4, n5, n6, n7, n8⟩ := H9.out.grew (HG0.out.trans hW); obtain ⟨z0, p0, p1, p2, p3, p4, p5, p6, p7, p8⟩ := H9'.out.grew (HG0.out.trans hW); go_simp; with_reducible rfl)
  refine held_take 8 (v := ?_) rfl (by kernel_rfl) (by kernel_rfl) (by kernel_rfl) (fun _ _ _ h => h) (by rfl) ?_ hS0 ?_
  rotate_left
  · (intro W hW; obtain ⟨x0, m0, m1, m2, m3, m4, m5, m6, m7, m8⟩ := blok9 (HX0.out.grew hW); rw [HL.out] at m8; obtain ⟨y0, n0, n1, n2, n3, n4, n5, n6, n7, n8⟩ := H9.out.grew (HG0.out.trans hW); obtain ⟨z0, p0, p1, p2, p3, p4, p5, p6, p7, p8⟩ := H9'.out.grew (HG0.out.trans hW); go_simp; with_reducible rfl)
  refine held_take 9 (v := ?_) rfl (by kernel_rfl) (by kernel_rfl) (by kernel_rfl) (fun _ _ _ h => h) (by rfl) ?_ hS0 ?_
  rotate_left
  · (intro W hW; obtain ⟨x0, m0, m1, m2, m3, m4, m5, m6, m7, m8⟩ := blok9 (HX0.out.grew hW); rw [HL.out] at m8; obtain ⟨y0, n0, n1, n2, n3, n4, n5, n6, n7, n8⟩ := H9.out.grew (HG0.out.trans hW); obtain ⟨z0, p0, p1, p2, p3, p4, p5, p6, p7, p8⟩ := H9'.out.grew (HG0.out.trans hW); go_simp; with_reducible rfl)
  refine held_take 10 (v := ?_) rfl (by kernel_rfl) (by kernel_rfl) (by kernel_rfl) (fun _ _ _ h => h) (by rfl) ?_ hS0 ?_
  rotate_left
  · (intro W hW; obtain ⟨x0, m0, m1, m2, m3, m4, m5, m6, m7, m8⟩ := blok9 (HX0.out.grew hW); rw [HL.out] at m8; obtain ⟨y0, n0, n1, n2, n3, n4, n5, n6, n7, n8⟩ := H9.out.grew (HG0.out.trans hW); obtain ⟨z0, p0, p1, p2, p3, p4, p5, p6, p7, p8⟩ := H9'.out.grew (HG0.out.trans hW); go_simp; with_reducible rfl)
  refine held_norm (a' := ?_) ?_ ?_
  rotate_left
  · (go_simp; with_reducible rfl)
  refine held_call 5 (by kernel_rfl) rfl (by rfl) (fun K hK => ?_)
  go_simp
  go_wp2_with ((go_at_call 41; (with_reducible refine (HSh.out _ (HG0.out.trans hS0)).grows.mono ?_); rintro en wn ⟨rfl, hg1⟩; have hS1 := (hS0).trans hg1))
  refine hK.out _ _ hS1 ?_
  clear hK K
  refine held_call 11 (by kernel_rfl) rfl (by rfl) (fun K hK => ?_)
  go_simp
  go_wp2_with ((go_at_call 41; (with_reducible refine (HSh'.out _ (HG0.out.trans hS1)).grows.mono ?_); rintro en wn ⟨rfl, hg2⟩; have hS2 := (hS1).trans hg2))
  refine hK.out _ _ hS2 ?_
  clear hK K
  refine held_call 12 (by kernel_rfl) rfl (by rfl) (fun K hK => ?_)
  go_simp
  go_wp2_with fail
  refine hK.out _ _ (hS2.alloc _) ?_
  clear hK K
  refine held_call 13 (by kernel_rfl) rfl (by rfl) (fun K hK => ?_)
  go_simp
  go_wp2_with ((go_at_call 44; (with_reducible refine (rand2 _ _ ha hb _ _ _ (row_new _ _ _ _ rfl)).mono ?_); rintro en wz ⟨rfl, hwz⟩; subst hwz))
  refine hK.out _ _ (hS2.alloc _) ?_
  clear hK K
  refine held_take 14 (v := ?_) rfl (by kernel_rfl) (by kernel_rfl) (by kernel_rfl) (fun _ _ _ h => h) (by rfl) ?_ (hS2.alloc _) ?_
  rotate_left
  · (intro W hW; go_simp; with_reducible rfl)
  refine held_norm (a' := ?_) ?_ ?_
  rotate_left
  · (go_simp; with_reducible rfl)
  refine held_done (by kernel_rfl) ?_
  have HGf := Lib.hid ((HG0.out.trans hS2).alloc (.cells #[.float .f64 qa, .float .f64 qb] 43))
  clear hS2 hS1 hS0 hg1 hg2
  go_wp2
  go_ret
  exact ⟨rfl, HGf.out⟩
set_option maxHeartbeats 4000000 in
set_option maxRecDepth 100000 in
theorem rsh_or (l : List Sst) (x : Ex) (Ax : Option Addr) (kx : Nat) (A : Option Addr) (k : Nat) (w : World) (a : Ex) (b o : Nat) (B : Option Addr) (ka : Nat) (hA : Ax = some ⟨b, o, none⟩) (hsh : ∀ W, Grew w W → Gives Tryz.prog 41 #[exV a B ka, .slice A l.length k] W (.float .f64 (shareK (heldAll l) a))) (h9 : At9 w b o a B ka) (a' : Ex) (B' : Option Addr) (ka' : Nat) (hsh' : ∀ W, Grew w W → Gives Tryz.prog 41 #[exV a' B' ka', .slice A l.length k] W (.float .f64 (shareK (heldAll l) a'))) (h9' : At9 w b (o + 9) a' B' ka') (hlen : x.l.length = 2) (hop : x.op = 11) :
    Gives Tryz.prog 41 #[exV x Ax kx, .slice A l.length k] w (.float .f64 (orB (shareK (heldAll l) a) (shareK (heldAll l) a'))) := by
  have ha := shareK_le (heldAll l) a
  have hb := shareK_le (heldAll l) a'
  have HOr : Hid (∀ W, Calls Tryz.prog 79 #[.float .f64 (shareK (heldAll l) a), .float .f64 (shareK (heldAll l) a')] W fun e w' => e = .returned (.float .f64 (orB (shareK (heldAll l) a) (shareK (heldAll l) a'))) ∧ w' = W) := Lib.hid fun W => fo_ror_any _ _ (by omega) (by omega) W
  subst hA
  obtain ⟨W0, hW0⟩ : ∃ W0, W0 = w.alloc (.cells (exC x (some ⟨b, o, none⟩) kx).toArray 27) := ⟨_, rfl⟩
  have HG0 : Hid (Grew w W0) := Lib.hid (by rw [hW0]; exact (Grew.refl w).alloc _)
  have HX0 : Hid (Blok W0 w.heap.size 27 (exC x (some ⟨b, o, none⟩) kx).toArray) := Lib.hid (by rw [hW0]; exact Blok.new _ _ _ _ rfl)
  obtain ⟨x0, m0, m1, m2, m3, m4, m5, m6, m7, m8⟩ := blok9 HX0.out
  have H9 := Lib.hid h9
  obtain ⟨y0, n0, n1, n2, n3, n4, n5, n6, n7, n8⟩ := h9.grew HG0.out
  have HSh := Lib.hid hsh
  have H9' := Lib.hid h9'
  obtain ⟨z0, p0, p1, p2, p3, p4, p5, p6, p7, p8⟩ := h9'.grew HG0.out
  have HSh' := Lib.hid hsh'
  have f0 : (x.op == 10) = false := by rw [hop]; rfl
  have f1 : (x.op == 11) = true := by rw [hop]; rfl
  clear h9 h9' hsh hsh' hop
  generalize shareK (heldAll l) a = qa at *
  generalize shareK (heldAll l) a' = qb at *
  generalize orB qa qb = qo at *
  unfold exV at *
  unfold exC at hW0
  rw [hlen] at hW0 m8 ⊢
  have HL := Lib.hid hlen
  clear hlen
  unfold Gives
  go_enter Tryz.func41, Tryz.ntmps41
  go_upto_region 1 with fail
  rw [← hW0]
  clear hW0
  go_wp2_with fail
  clear x0 m0 m1 m2 m3 m4 m5 m6 m7 m8 y0 n0 n1 n2 n3 n4 n5 n6 n7 n8 z0 p0 p1 p2 p3 p4 p5 p6 p7 p8
  have hS0 : Grew W0 W0.drew := (Grew.refl W0).drew
  refine wp_region_S (fun W => Grew W0 W) (by kernel_rfl) ?_
  refine held_take 0 (v := ?_) rfl (by kernel_rfl) (by kernel_rfl) (by kernel_rfl) (fun _ _ _ h => h) (by rfl) ?_ hS0 ?_
  rotate_left
  · (intro W hW; obtain ⟨x0, m0, m1, m2, m3, m4, m5, m6, m7, m8⟩ := blok9 (HX0.out.grew hW); rw [HL.out] at m8; obtain ⟨y0, n0, n1, n2, n3, n4, n5, n6, n7, n8⟩ := H9.out.grew (HG0.out.trans hW); obtain ⟨z0, p0, p1, p2, p3, p4, p5, p6, p7, p8⟩ := H9'.out.grew (HG0.out.trans hW); go_simp; with_reducible rfl)
  refine held_take 1 (v := ?_) rfl (by kernel_rfl) (by kernel_rfl) (by kernel_rfl) (fun _ _ _ h => h) (by rfl) ?_ hS0 ?_
  rotate_left
  · (intro W hW; obtain ⟨x0, m0, m1, m2, m3, m4, m5, m6, m7, m8⟩ := blok9 (HX0.out.grew hW); rw [HL.out] at m8; obtain ⟨y0, n0, n1, n2, n3, n4, n5, n6, n7, n8⟩ := H9.out.grew (HG0.out.trans hW); obtain ⟨z0, p0, p1, p2, p3, p4, p5, p6, p7, p8⟩ := H9'.out.grew (HG0.out.trans hW); go_simp; with_reducible rfl)
  refine held_take 2 (v := ?_) rfl (by kernel_rfl) (by kernel_rfl) (by kernel_rfl) (fun _ _ _ h => h) (by rfl) ?_ hS0 ?_
  rotate_left
  · (intro W hW; obtain ⟨x0, m0, m1, m2, m3, m4, m5, m6, m7, m8⟩ := blok9 (HX0.out.grew hW); rw [HL.out] at m8; obtain ⟨y0, n0, n1, n2, n3, n4, n5, n6, n7, n8⟩ := H9.out.grew (HG0.out.trans hW); obtain ⟨z0, p0, p1, p2, p3, p4, p5, p6, p7, p8⟩ := H9'.out.grew (HG0.out.trans hW); go_simp; with_reducible rfl)
  refine held_take 3 (v := ?_) rfl (by kernel_rfl) (by kernel_rfl) (by kernel_rfl) (fun _ _ _ h => h) (by rfl) ?_ hS0 ?_
  rotate_left
  · (intro W hW; obtain ⟨x0, m0, m1, m2, m3, m4, m5, m6, m7, m8⟩ := blok9 (HX0.out.grew hW); rw [HL.out] at m8; obtain ⟨y0, n0, n1, n2, n3, n4, n5, n6, n7, n8⟩ := H9.out.grew (HG0.out.trans hW); obtain ⟨z0, p0, p1, p2, p3, p4, p5, p6, p7, p8⟩ := H9'.out.grew (HG0.out.trans hW); go_simp; with_reducible rfl)
  refine held_take 4 (v := ?_) rfl (by kernel_rfl) (by kernel_rfl) (by kernel_rfl) (fun _ _ _ h => h) (by rfl) ?_ hS0 ?_
  rotate_left
  · (intro W hW; obtain ⟨x0, m0, m1, m2, m3, m4, m5, m6, m7, m8⟩ := blok9 (HX0.out.grew hW); rw [HL.out] at m8; obtain ⟨y0, n0, n1, n2, n3, n4, n5, n6, n7, n8⟩ := H9.out.grew (HG0.out.trans hW); obtain ⟨z0, p0, p1, p2, p3, p4, p5, p6, p7, p8⟩ := H9'.out.grew (HG0.out.trans hW); go_simp; with_reducible rfl)
  refine held_take 6 (v := ?_) rfl (by kernel_rfl) (by kernel_rfl) (by kernel_rfl) (fun _ _ _ h => h) (by rfl) ?_ hS0 ?_
  rotate_left
  · (intro W hW; obtain ⟨x0, m0, m1, m2, m3, m4, m5, m6, m7, m8⟩ := blok9 (HX0.out.grew hW); rw [HL.out] at m8; obtain ⟨y0, n0, n1, n2, n3, n4, n5, n6, n7, n8⟩ := H9.out.grew (HG0.out.trans hW); obtain ⟨z0, p0, p1, p2, p3, p4, p5, p6, p7, p8⟩ := H9'.out.grew (HG0.out.trans hW); go_simp; with_reducible rfl)
  refine held_take 7 (v := ?_) rfl (by kernel_rfl) (by kernel_rfl) (by kernel_rfl) (fun _ _ _ h => h) (by rfl) ?_ hS0 ?_
  rotate_left
  · (intro W hW; obtain ⟨x0, m0, m1, m2, m3, m4, m5, m6, m7, m8⟩ := blok9 (HX0.out.grew hW); rw [HL.out] at m8; obtain ⟨y0, n0, n1, n2, n3, n4, n5, n6, n7, n8⟩ := H9.out.grew (HG0.out.trans hW); obtain ⟨z0, p0, p1, p2, p3, p4, p5, p6, p7, p8⟩ := H9'.out.grew (HG0.out.trans hW); go_simp; with_reducible rfl)
  refine held_take 8 (v := ?_) rfl (by kernel_rfl) (by kernel_rfl) (by kernel_rfl) (fun _ _ _ h => h) (by rfl) ?_ hS0 ?_
  rotate_left
  · (intro W hW; obtain ⟨x0, m0, m1, m2, m3, m4, m5, m6, m7, m8⟩ := blok9 (HX0.out.grew hW); rw [HL.out] at m8; obtain ⟨y0, n0, n1, n2, n3, n4, n5, n6, n7, n8⟩ := H9.out.grew (HG0.out.trans hW); obtain ⟨z0, p0, p1, p2, p3, p4, p5, p6, p7, p8⟩ := H9'.out.grew (HG0.out.trans hW); go_simp; with_reducible rfl)
  refine held_take 9 (v := ?_) rfl (by kernel_rfl) (by kernel_rfl) (by kernel_rfl) (fun _ _ _ h => h) (by rfl) ?_ hS0 ?_
  rotate_left
  · (intro W hW; obtain ⟨x0, m0, m1, m2, m3, m4, m5, m6, m7, m8⟩ := blok9 (HX0.out.grew hW); rw [HL.out] at m8; obtain ⟨y0, n0, n1, n2, n3, n4, n5, n6, n7, n8⟩ := H9.out.grew (HG0.out.trans hW); obtain ⟨z0, p0, p1, p2, p3, p4, p5, p6, p7, p8⟩ := H9'.out.grew (HG0.out.trans hW); go_simp; with_reducible rfl)
  refine held_take 10 (v := ?_) rfl (by kernel_rfl) (by kernel_rfl) (by kernel_rfl) (fun _ _ _ h => h) (by rfl) ?_ hS0 ?_
  rotate_left
  · (intro W hW; obtain ⟨x0, m0, m1, m2, m3, m4, m5, m6, m7, m8⟩ := blok9 (HX0.out.grew hW); rw [HL.out] at m8; obtain ⟨y0, n0, n1, n2, n3, n4, n5, n6, n7, n8⟩ := H9.out.grew (HG0.out.trans hW); obtain ⟨z0, p0, p1, p2, p3, p4, p5, p6, p7, p8⟩ := H9'.out.grew (HG0.out.trans hW); go_simp; with_reducible rfl)
  refine held_norm (a' := ?_) ?_ ?_
  rotate_left
  · (go_simp; with_reducible rfl)
  refine held_call 5 (by kernel_rfl) rfl (by rfl) (fun K hK => ?_)
  go_simp
  go_wp2_with ((go_at_call 41; (with_reducible refine (HSh.out _ (HG0.out.trans hS0)).grows.mono ?_); rintro en wn ⟨rfl, hg1⟩; have hS1 := (hS0).trans hg1))
  refine hK.out _ _ hS1 ?_
  clear hK K
  refine held_call 11 (by kernel_rfl) rfl (by rfl) (fun K hK => ?_)
  go_simp
  go_wp2_with ((go_at_call 41; (with_reducible refine (HSh'.out _ (HG0.out.trans hS1)).grows.mono ?_); rintro en wn ⟨rfl, hg2⟩; have hS2 := (hS1).trans hg2))
  refine hK.out _ _ hS2 ?_
  clear hK K
  refine held_call 12 (by kernel_rfl) rfl (by rfl) (fun K hK => ?_)
  go_simp
  go_wp2_with ((go_at_call 79; (with_reducible refine (HOr.out _).mono ?_); rintro en wz ⟨rfl, hwz⟩; subst hwz))
  refine hK.out _ _ hS2 ?_
  clear hK K
  refine held_take 13 (v := ?_) rfl (by kernel_rfl) (by kernel_rfl) (by kernel_rfl) (fun _ _ _ h => h) (by rfl) ?_ hS2 ?_
  rotate_left
  · (intro W hW; go_simp; with_reducible rfl)
  refine held_norm (a' := ?_) ?_ ?_
  rotate_left
  · (go_simp; with_reducible rfl)
  refine held_done (by kernel_rfl) ?_
  have HGf := Lib.hid (HG0.out.trans hS2)
  clear hS2 hS1 hS0 hg1 hg2
  go_wp2
  go_ret
  exact ⟨rfl, HGf.out⟩
set_option maxHeartbeats 4000000 in
set_option maxRecDepth 100000 in
theorem rsh_not (l : List Sst) (x : Ex) (Ax : Option Addr) (kx : Nat) (A : Option Addr) (k : Nat) (w : World) (a : Ex) (b o : Nat) (B : Option Addr) (ka : Nat) (hA : Ax = some ⟨b, o, none⟩) (hsh : ∀ W, Grew w W → Gives Tryz.prog 41 #[exV a B ka, .slice A l.length k] W (.float .f64 (shareK (heldAll l) a))) (h9 : At9 w b o a B ka) (hlen : x.l.length = 1) (hop : x.op = 12) :
    Gives Tryz.prog 41 #[exV x Ax kx, .slice A l.length k] w (.float .f64 (notB (shareK (heldAll l) a))) := by
  have ha := shareK_le (heldAll l) a
  have HN : Hid (∀ W, Calls Tryz.prog 80 #[.float .f64 (shareK (heldAll l) a)] W fun e w' => e = .returned (.float .f64 (notB (shareK (heldAll l) a))) ∧ w' = W) := Lib.hid fun W => frnot_any _ (by omega) W
  subst hA
  obtain ⟨W0, hW0⟩ : ∃ W0, W0 = w.alloc (.cells (exC x (some ⟨b, o, none⟩) kx).toArray 27) := ⟨_, rfl⟩
  have HG0 : Hid (Grew w W0) := Lib.hid (by rw [hW0]; exact (Grew.refl w).alloc _)
  have HX0 : Hid (Blok W0 w.heap.size 27 (exC x (some ⟨b, o, none⟩) kx).toArray) := Lib.hid (by rw [hW0]; exact Blok.new _ _ _ _ rfl)
  obtain ⟨x0, m0, m1, m2, m3, m4, m5, m6, m7, m8⟩ := blok9 HX0.out
  have H9 := Lib.hid h9
  obtain ⟨y0, n0, n1, n2, n3, n4, n5, n6, n7, n8⟩ := h9.grew HG0.out
  have HSh := Lib.hid hsh
  have f0 : (x.op == 12) = true := by rw [hop]; rfl
  clear h9 hsh hop
  generalize shareK (heldAll l) a = qa at *
  generalize notB qa = qn at *
  unfold exV at *
  unfold exC at hW0
  rw [hlen] at hW0 m8 ⊢
  have HL := Lib.hid hlen
  clear hlen
  unfold Gives
  go_enter Tryz.func41, Tryz.ntmps41
  go_upto_region 1 with fail
  rw [← hW0]
  clear hW0
  go_wp2_with (first | (go_at_call 41; (with_reducible refine (HSh.out _ HG0.out).grows.mono ?_); rintro en wn ⟨rfl, hgn⟩; have HGf := Lib.hid (HG0.out.trans hgn); clear hgn) | (go_at_call 80; (with_reducible refine (HN.out _).mono ?_); rintro en wz ⟨rfl, hwz⟩; subst hwz))
  go_ret
  exact ⟨rfl, HGf.out⟩
set_option maxHeartbeats 4000000 in
set_option maxRecDepth 100000 in
theorem rsh_null13 (l : List Sst) (hm : LitSd l) (x : Ex) (Ax : Option Addr) (kx : Nat) (A : Option Addr) (k : Nat) (w : World) (ra : SstsR (PRow w) A l) (a : Ex) (b o : Nat) (B : Option Addr) (ka : Nat) (hA : Ax = some ⟨b, o, none⟩) (hsh : ∀ W, Grew w W → Gives Tryz.prog 41 #[exV a B ka, .slice A l.length k] W (.float .f64 (shareK (heldAll l) a))) (h9 : At9 w b o a B ka) (hlen : x.l.length = 1) (hop : x.op = 13) (ha15 : a.op = 15) :
    Gives Tryz.prog 41 #[exV x Ax kx, .slice A l.length k] w (.float .f64 (nullK (heldAll l) a)) := by
  have H1 : Hid (∀ W, Grew w W → Calls Tryz.prog 82 #[.slice A l.length k, .int .i64 a.t, .int .i64 a.c] W (KolF W (colK (heldAll l) a.t a.c))) := Lib.hid fun W hW => rcol_any l hm a.t a.c A k W (ra.grew hW)
  have H2 : Hid (∀ W, Grew w W → Calls Tryz.prog 43 #[.slice A l.length k, .int .i64 a.t] W (HelkF W (saidK l a.t))) := Lib.hid fun W hW => rsaid_any l hm a.t A k W (ra.grew hW)
  have hr := saidK_rows l a.t
  have hok := colK_ok (heldAll_ok l) a.t a.c
  have HF : Hid (∀ W, Gives Tryz.prog 81 #[.int .i64 (colK (heldAll l) a.t a.c).n, .int .i64 (saidK l a.t).rows] W (.float .f64 (nullK (heldAll l) a))) := Lib.hid fun W => by
    rw [hr]
    exact rof_any _ _ ⟨by omega, by omega⟩ ⟨by omega, by omega⟩ W
  have hq : nullK (heldAll l) a ≤ 4607182418800017408 := ofB_le _ _
  have HN : Hid (∀ W, Calls Tryz.prog 80 #[.float .f64 (nullK (heldAll l) a)] W fun e w' => e = .returned (.float .f64 (notB (nullK (heldAll l) a))) ∧ w' = W) := Lib.hid fun W => frnot_any _ (by omega) W
  subst hA
  obtain ⟨W0, hW0⟩ : ∃ W0, W0 = w.alloc (.cells (exC x (some ⟨b, o, none⟩) kx).toArray 27) := ⟨_, rfl⟩
  have HG0 : Hid (Grew w W0) := Lib.hid (by rw [hW0]; exact (Grew.refl w).alloc _)
  have HX0 : Hid (Blok W0 w.heap.size 27 (exC x (some ⟨b, o, none⟩) kx).toArray) := Lib.hid (by rw [hW0]; exact Blok.new _ _ _ _ rfl)
  obtain ⟨x0, m0, m1, m2, m3, m4, m5, m6, m7, m8⟩ := blok9 HX0.out
  have H9 := Lib.hid h9
  obtain ⟨y0, n0, n1, n2, n3, n4, n5, n6, n7, n8⟩ := h9.grew HG0.out
  have HSh := Lib.hid hsh
  have f0 : (x.op == 12) = false := by rw [hop]; rfl
  have f1 : (x.op == 13) = true := by rw [hop]; rfl
  have f2 : (x.op == 14) = false := by rw [hop]; rfl
  have f3 : (a.op == 15) = true := by rw [ha15]; rfl
  clear hm ra h9 hsh hop HSh hok hr ha15
  generalize nullK (heldAll l) a = qa at *
  generalize notB qa = qn at *
  generalize colK (heldAll l) a.t a.c = xc at *
  generalize saidK l a.t = s at *
  unfold exV at *
  unfold exC at hW0
  rw [hlen] at hW0 m8 ⊢
  have HL := Lib.hid hlen
  clear hlen
  unfold Gives
  go_enter Tryz.func41, Tryz.ntmps41
  go_upto_region 1 with fail
  rw [← hW0]
  clear hW0
  go_wp2_with fail
  clear x0 m0 m1 m2 m3 m4 m5 m6 m7 m8 y0 n0 n1 n2 n3 n4 n5 n6 n7 n8
  have hS0 : Grew W0 W0.drew := (Grew.refl W0).drew
  refine wp_region_S (fun W => Grew W0 W) (by kernel_rfl) ?_
  refine held_take 0 (v := ?_) rfl (by kernel_rfl) (by kernel_rfl) (by kernel_rfl) (fun _ _ _ h => h) (by rfl) ?_ hS0 ?_
  rotate_left
  · (intro W hW; obtain ⟨x0, m0, m1, m2, m3, m4, m5, m6, m7, m8⟩ := blok9 (HX0.out.grew hW); rw [HL.out] at m8; obtain ⟨y0, n0, n1, n2, n3, n4, n5, n6, n7, n8⟩ := H9.out.grew (HG0.out.trans hW); go_simp; with_reducible rfl)
  refine held_take 1 (v := ?_) rfl (by kernel_rfl) (by kernel_rfl) (by kernel_rfl) (fun _ _ _ h => h) (by rfl) ?_ hS0 ?_
  rotate_left
  · (intro W hW; obtain ⟨x0, m0, m1, m2, m3, m4, m5, m6, m7, m8⟩ := blok9 (HX0.out.grew hW); rw [HL.out] at m8; obtain ⟨y0, n0, n1, n2, n3, n4, n5, n6, n7, n8⟩ := H9.out.grew (HG0.out.trans hW); go_simp; with_reducible rfl)
  refine held_take 2 (v := ?_) rfl (by kernel_rfl) (by kernel_rfl) (by kernel_rfl) (fun _ _ _ h => h) (by rfl) ?_ hS0 ?_
  rotate_left
  · (intro W hW; obtain ⟨x0, m0, m1, m2, m3, m4, m5, m6, m7, m8⟩ := blok9 (HX0.out.grew hW); rw [HL.out] at m8; obtain ⟨y0, n0, n1, n2, n3, n4, n5, n6, n7, n8⟩ := H9.out.grew (HG0.out.trans hW); go_simp; with_reducible rfl)
  refine held_take 3 (v := ?_) rfl (by kernel_rfl) (by kernel_rfl) (by kernel_rfl) (fun _ _ _ h => h) (by rfl) ?_ hS0 ?_
  rotate_left
  · (intro W hW; obtain ⟨x0, m0, m1, m2, m3, m4, m5, m6, m7, m8⟩ := blok9 (HX0.out.grew hW); rw [HL.out] at m8; obtain ⟨y0, n0, n1, n2, n3, n4, n5, n6, n7, n8⟩ := H9.out.grew (HG0.out.trans hW); go_simp; with_reducible rfl)
  refine held_take 4 (v := ?_) rfl (by kernel_rfl) (by kernel_rfl) (by kernel_rfl) (fun _ _ _ h => h) (by rfl) ?_ hS0 ?_
  rotate_left
  · (intro W hW; obtain ⟨x0, m0, m1, m2, m3, m4, m5, m6, m7, m8⟩ := blok9 (HX0.out.grew hW); rw [HL.out] at m8; obtain ⟨y0, n0, n1, n2, n3, n4, n5, n6, n7, n8⟩ := H9.out.grew (HG0.out.trans hW); go_simp; with_reducible rfl)
  refine held_take 5 (v := ?_) rfl (by kernel_rfl) (by kernel_rfl) (by kernel_rfl) (fun _ _ _ h => h) (by rfl) ?_ hS0 ?_
  rotate_left
  · (intro W hW; obtain ⟨x0, m0, m1, m2, m3, m4, m5, m6, m7, m8⟩ := blok9 (HX0.out.grew hW); rw [HL.out] at m8; obtain ⟨y0, n0, n1, n2, n3, n4, n5, n6, n7, n8⟩ := H9.out.grew (HG0.out.trans hW); go_simp; with_reducible rfl)
  refine held_take 6 (v := ?_) rfl (by kernel_rfl) (by kernel_rfl) (by kernel_rfl) (fun _ _ _ h => h) (by rfl) ?_ hS0 ?_
  rotate_left
  · (intro W hW; obtain ⟨x0, m0, m1, m2, m3, m4, m5, m6, m7, m8⟩ := blok9 (HX0.out.grew hW); rw [HL.out] at m8; obtain ⟨y0, n0, n1, n2, n3, n4, n5, n6, n7, n8⟩ := H9.out.grew (HG0.out.trans hW); go_simp; with_reducible rfl)
  refine held_take 7 (v := ?_) rfl (by kernel_rfl) (by kernel_rfl) (by kernel_rfl) (fun _ _ _ h => h) (by rfl) ?_ hS0 ?_
  rotate_left
  · (intro W hW; obtain ⟨x0, m0, m1, m2, m3, m4, m5, m6, m7, m8⟩ := blok9 (HX0.out.grew hW); rw [HL.out] at m8; obtain ⟨y0, n0, n1, n2, n3, n4, n5, n6, n7, n8⟩ := H9.out.grew (HG0.out.trans hW); go_simp; with_reducible rfl)
  refine held_take 8 (v := ?_) rfl (by kernel_rfl) (by kernel_rfl) (by kernel_rfl) (fun _ _ _ h => h) (by rfl) ?_ hS0 ?_
  rotate_left
  · (intro W hW; obtain ⟨x0, m0, m1, m2, m3, m4, m5, m6, m7, m8⟩ := blok9 (HX0.out.grew hW); rw [HL.out] at m8; obtain ⟨y0, n0, n1, n2, n3, n4, n5, n6, n7, n8⟩ := H9.out.grew (HG0.out.trans hW); go_simp; with_reducible rfl)
  refine held_take 9 (v := ?_) rfl (by kernel_rfl) (by kernel_rfl) (by kernel_rfl) (fun _ _ _ h => h) (by rfl) ?_ hS0 ?_
  rotate_left
  · (intro W hW; obtain ⟨x0, m0, m1, m2, m3, m4, m5, m6, m7, m8⟩ := blok9 (HX0.out.grew hW); rw [HL.out] at m8; obtain ⟨y0, n0, n1, n2, n3, n4, n5, n6, n7, n8⟩ := H9.out.grew (HG0.out.trans hW); go_simp; with_reducible rfl)
  refine held_take 10 (v := ?_) rfl (by kernel_rfl) (by kernel_rfl) (by kernel_rfl) (fun _ _ _ h => h) (by rfl) ?_ hS0 ?_
  rotate_left
  · (intro W hW; obtain ⟨x0, m0, m1, m2, m3, m4, m5, m6, m7, m8⟩ := blok9 (HX0.out.grew hW); rw [HL.out] at m8; obtain ⟨y0, n0, n1, n2, n3, n4, n5, n6, n7, n8⟩ := H9.out.grew (HG0.out.trans hW); go_simp; with_reducible rfl)
  refine held_take 13 (v := ?_) rfl (by kernel_rfl) (by kernel_rfl) (by kernel_rfl) (fun _ _ _ h => h) (by rfl) ?_ hS0 ?_
  rotate_left
  · (intro W hW; obtain ⟨x0, m0, m1, m2, m3, m4, m5, m6, m7, m8⟩ := blok9 (HX0.out.grew hW); rw [HL.out] at m8; obtain ⟨y0, n0, n1, n2, n3, n4, n5, n6, n7, n8⟩ := H9.out.grew (HG0.out.trans hW); go_simp; with_reducible rfl)
  refine held_take 14 (v := ?_) rfl (by kernel_rfl) (by kernel_rfl) (by kernel_rfl) (fun _ _ _ h => h) (by rfl) ?_ hS0 ?_
  rotate_left
  · (intro W hW; obtain ⟨x0, m0, m1, m2, m3, m4, m5, m6, m7, m8⟩ := blok9 (HX0.out.grew hW); rw [HL.out] at m8; obtain ⟨y0, n0, n1, n2, n3, n4, n5, n6, n7, n8⟩ := H9.out.grew (HG0.out.trans hW); go_simp; with_reducible rfl)
  refine held_take 15 (v := ?_) rfl (by kernel_rfl) (by kernel_rfl) (by kernel_rfl) (fun _ _ _ h => h) (by rfl) ?_ hS0 ?_
  rotate_left
  · (intro W hW; obtain ⟨x0, m0, m1, m2, m3, m4, m5, m6, m7, m8⟩ := blok9 (HX0.out.grew hW); rw [HL.out] at m8; obtain ⟨y0, n0, n1, n2, n3, n4, n5, n6, n7, n8⟩ := H9.out.grew (HG0.out.trans hW); go_simp; with_reducible rfl)
  refine held_take 16 (v := ?_) rfl (by kernel_rfl) (by kernel_rfl) (by kernel_rfl) (fun _ _ _ h => h) (by rfl) ?_ hS0 ?_
  rotate_left
  · (intro W hW; obtain ⟨x0, m0, m1, m2, m3, m4, m5, m6, m7, m8⟩ := blok9 (HX0.out.grew hW); rw [HL.out] at m8; obtain ⟨y0, n0, n1, n2, n3, n4, n5, n6, n7, n8⟩ := H9.out.grew (HG0.out.trans hW); go_simp; with_reducible rfl)
  refine held_take 17 (v := ?_) rfl (by kernel_rfl) (by kernel_rfl) (by kernel_rfl) (fun _ _ _ h => h) (by rfl) ?_ hS0 ?_
  rotate_left
  · (intro W hW; obtain ⟨x0, m0, m1, m2, m3, m4, m5, m6, m7, m8⟩ := blok9 (HX0.out.grew hW); rw [HL.out] at m8; obtain ⟨y0, n0, n1, n2, n3, n4, n5, n6, n7, n8⟩ := H9.out.grew (HG0.out.trans hW); go_simp; with_reducible rfl)
  refine held_take 18 (v := ?_) rfl (by kernel_rfl) (by kernel_rfl) (by kernel_rfl) (fun _ _ _ h => h) (by rfl) ?_ hS0 ?_
  rotate_left
  · (intro W hW; obtain ⟨x0, m0, m1, m2, m3, m4, m5, m6, m7, m8⟩ := blok9 (HX0.out.grew hW); rw [HL.out] at m8; obtain ⟨y0, n0, n1, n2, n3, n4, n5, n6, n7, n8⟩ := H9.out.grew (HG0.out.trans hW); go_simp; with_reducible rfl)
  refine held_norm (a' := ?_) ?_ ?_
  rotate_left
  · (go_simp; with_reducible rfl)
  refine held_call 11 (by kernel_rfl) rfl (by rfl) (fun K hK => ?_)
  go_simp
  go_wp2_with ((go_at_call 82; (with_reducible refine (H1.out _ (HG0.out.trans hS0)).mono ?_); rintro en wn ⟨Bc, jc, rfl, hg1, _⟩; have hS1 := hS0.trans hg1))
  refine hK.out _ _ hS1 ?_
  clear hK K
  refine held_take 12 (v := ?_) rfl (by kernel_rfl) (by kernel_rfl) (by kernel_rfl) (fun _ _ _ h => h) (by rfl) ?_ hS1 ?_
  rotate_left
  · (intro W hW; go_simp; with_reducible rfl)
  refine held_norm (a' := ?_) ?_ ?_
  rotate_left
  · (go_simp; with_reducible rfl)
  refine held_call 19 (by kernel_rfl) rfl (by rfl) (fun K hK => ?_)
  go_simp
  go_wp2_with ((go_at_call 43; (with_reducible refine (H2.out _ (HG0.out.trans hS1)).mono ?_); rintro en wn ⟨Bs, js, rfl, hg2, _⟩; have hS2 := hS1.trans hg2))
  refine hK.out _ _ hS2 ?_
  clear hK K
  refine held_take 20 (v := ?_) rfl (by kernel_rfl) (by kernel_rfl) (by kernel_rfl) (fun _ _ _ h => h) (by rfl) ?_ hS2 ?_
  rotate_left
  · (intro W hW; go_simp; with_reducible rfl)
  refine held_norm (a' := ?_) ?_ ?_
  rotate_left
  · (go_simp; with_reducible rfl)
  refine held_call 21 (by kernel_rfl) rfl (by rfl) (fun K hK => ?_)
  go_simp
  go_wp2_with ((go_at_call 81; (with_reducible refine (HF.out _).grows.mono ?_); rintro en wn ⟨rfl, hg3⟩; have hS3 := hS2.trans hg3))
  refine hK.out _ _ hS3 ?_
  clear hK K
  refine held_take 22 (v := ?_) rfl (by kernel_rfl) (by kernel_rfl) (by kernel_rfl) (fun _ _ _ h => h) (by rfl) ?_ hS3 ?_
  rotate_left
  · (intro W hW; go_simp; with_reducible rfl)
  refine held_norm (a' := ?_) ?_ ?_
  rotate_left
  · (go_simp; with_reducible rfl)
  refine held_done (by kernel_rfl) ?_
  have HGf := Lib.hid (HG0.out.trans hS3)
  obtain ⟨x0, m0, m1, m2, m3, m4, m5, m6, m7, m8⟩ := blok9 (HX0.out.grew hS3)
  clear hS3 hS2 hS1 hS0 hg1 hg2 hg3
  go_wp2_with (go_at_call 80; (with_reducible refine (HN.out _).mono ?_); rintro en wz ⟨rfl, hwz⟩; subst hwz)
  go_ret
  exact ⟨rfl, HGf.out⟩
set_option maxHeartbeats 4000000 in
set_option maxRecDepth 100000 in
theorem rsh_null14 (l : List Sst) (hm : LitSd l) (x : Ex) (Ax : Option Addr) (kx : Nat) (A : Option Addr) (k : Nat) (w : World) (ra : SstsR (PRow w) A l) (a : Ex) (b o : Nat) (B : Option Addr) (ka : Nat) (hA : Ax = some ⟨b, o, none⟩) (hsh : ∀ W, Grew w W → Gives Tryz.prog 41 #[exV a B ka, .slice A l.length k] W (.float .f64 (shareK (heldAll l) a))) (h9 : At9 w b o a B ka) (hlen : x.l.length = 1) (hop : x.op = 14) (ha15 : a.op = 15) :
    Gives Tryz.prog 41 #[exV x Ax kx, .slice A l.length k] w (.float .f64 (notB (nullK (heldAll l) a))) := by
  have H1 : Hid (∀ W, Grew w W → Calls Tryz.prog 82 #[.slice A l.length k, .int .i64 a.t, .int .i64 a.c] W (KolF W (colK (heldAll l) a.t a.c))) := Lib.hid fun W hW => rcol_any l hm a.t a.c A k W (ra.grew hW)
  have H2 : Hid (∀ W, Grew w W → Calls Tryz.prog 43 #[.slice A l.length k, .int .i64 a.t] W (HelkF W (saidK l a.t))) := Lib.hid fun W hW => rsaid_any l hm a.t A k W (ra.grew hW)
  have hr := saidK_rows l a.t
  have hok := colK_ok (heldAll_ok l) a.t a.c
  have HF : Hid (∀ W, Gives Tryz.prog 81 #[.int .i64 (colK (heldAll l) a.t a.c).n, .int .i64 (saidK l a.t).rows] W (.float .f64 (nullK (heldAll l) a))) := Lib.hid fun W => by
    rw [hr]
    exact rof_any _ _ ⟨by omega, by omega⟩ ⟨by omega, by omega⟩ W
  have hq : nullK (heldAll l) a ≤ 4607182418800017408 := ofB_le _ _
  have HN : Hid (∀ W, Calls Tryz.prog 80 #[.float .f64 (nullK (heldAll l) a)] W fun e w' => e = .returned (.float .f64 (notB (nullK (heldAll l) a))) ∧ w' = W) := Lib.hid fun W => frnot_any _ (by omega) W
  subst hA
  obtain ⟨W0, hW0⟩ : ∃ W0, W0 = w.alloc (.cells (exC x (some ⟨b, o, none⟩) kx).toArray 27) := ⟨_, rfl⟩
  have HG0 : Hid (Grew w W0) := Lib.hid (by rw [hW0]; exact (Grew.refl w).alloc _)
  have HX0 : Hid (Blok W0 w.heap.size 27 (exC x (some ⟨b, o, none⟩) kx).toArray) := Lib.hid (by rw [hW0]; exact Blok.new _ _ _ _ rfl)
  obtain ⟨x0, m0, m1, m2, m3, m4, m5, m6, m7, m8⟩ := blok9 HX0.out
  have H9 := Lib.hid h9
  obtain ⟨y0, n0, n1, n2, n3, n4, n5, n6, n7, n8⟩ := h9.grew HG0.out
  have HSh := Lib.hid hsh
  have f0 : (x.op == 12) = false := by rw [hop]; rfl
  have f1 : (x.op == 13) = false := by rw [hop]; rfl
  have f2 : (x.op == 14) = true := by rw [hop]; rfl
  have f3 : (a.op == 15) = true := by rw [ha15]; rfl
  clear hm ra h9 hsh hop HSh hok hr ha15
  generalize nullK (heldAll l) a = qa at *
  generalize notB qa = qn at *
  generalize colK (heldAll l) a.t a.c = xc at *
  generalize saidK l a.t = s at *
  unfold exV at *
  unfold exC at hW0
  rw [hlen] at hW0 m8 ⊢
  have HL := Lib.hid hlen
  clear hlen
  unfold Gives
  go_enter Tryz.func41, Tryz.ntmps41
  go_upto_region 1 with fail
  rw [← hW0]
  clear hW0
  go_wp2_with fail
  clear x0 m0 m1 m2 m3 m4 m5 m6 m7 m8 y0 n0 n1 n2 n3 n4 n5 n6 n7 n8
  have hS0 : Grew W0 W0.drew := (Grew.refl W0).drew
  refine wp_region_S (fun W => Grew W0 W) (by kernel_rfl) ?_
  refine held_take 0 (v := ?_) rfl (by kernel_rfl) (by kernel_rfl) (by kernel_rfl) (fun _ _ _ h => h) (by rfl) ?_ hS0 ?_
  rotate_left
  · (intro W hW; obtain ⟨x0, m0, m1, m2, m3, m4, m5, m6, m7, m8⟩ := blok9 (HX0.out.grew hW); rw [HL.out] at m8; obtain ⟨y0, n0, n1, n2, n3, n4, n5, n6, n7, n8⟩ := H9.out.grew (HG0.out.trans hW); go_simp; with_reducible rfl)
  refine held_take 1 (v := ?_) rfl (by kernel_rfl) (by kernel_rfl) (by kernel_rfl) (fun _ _ _ h => h) (by rfl) ?_ hS0 ?_
  rotate_left
  · (intro W hW; obtain ⟨x0, m0, m1, m2, m3, m4, m5, m6, m7, m8⟩ := blok9 (HX0.out.grew hW); rw [HL.out] at m8; obtain ⟨y0, n0, n1, n2, n3, n4, n5, n6, n7, n8⟩ := H9.out.grew (HG0.out.trans hW); go_simp; with_reducible rfl)
  refine held_take 2 (v := ?_) rfl (by kernel_rfl) (by kernel_rfl) (by kernel_rfl) (fun _ _ _ h => h) (by rfl) ?_ hS0 ?_
  rotate_left
  · (intro W hW; obtain ⟨x0, m0, m1, m2, m3, m4, m5, m6, m7, m8⟩ := blok9 (HX0.out.grew hW); rw [HL.out] at m8; obtain ⟨y0, n0, n1, n2, n3, n4, n5, n6, n7, n8⟩ := H9.out.grew (HG0.out.trans hW); go_simp; with_reducible rfl)
  refine held_take 3 (v := ?_) rfl (by kernel_rfl) (by kernel_rfl) (by kernel_rfl) (fun _ _ _ h => h) (by rfl) ?_ hS0 ?_
  rotate_left
  · (intro W hW; obtain ⟨x0, m0, m1, m2, m3, m4, m5, m6, m7, m8⟩ := blok9 (HX0.out.grew hW); rw [HL.out] at m8; obtain ⟨y0, n0, n1, n2, n3, n4, n5, n6, n7, n8⟩ := H9.out.grew (HG0.out.trans hW); go_simp; with_reducible rfl)
  refine held_take 4 (v := ?_) rfl (by kernel_rfl) (by kernel_rfl) (by kernel_rfl) (fun _ _ _ h => h) (by rfl) ?_ hS0 ?_
  rotate_left
  · (intro W hW; obtain ⟨x0, m0, m1, m2, m3, m4, m5, m6, m7, m8⟩ := blok9 (HX0.out.grew hW); rw [HL.out] at m8; obtain ⟨y0, n0, n1, n2, n3, n4, n5, n6, n7, n8⟩ := H9.out.grew (HG0.out.trans hW); go_simp; with_reducible rfl)
  refine held_take 5 (v := ?_) rfl (by kernel_rfl) (by kernel_rfl) (by kernel_rfl) (fun _ _ _ h => h) (by rfl) ?_ hS0 ?_
  rotate_left
  · (intro W hW; obtain ⟨x0, m0, m1, m2, m3, m4, m5, m6, m7, m8⟩ := blok9 (HX0.out.grew hW); rw [HL.out] at m8; obtain ⟨y0, n0, n1, n2, n3, n4, n5, n6, n7, n8⟩ := H9.out.grew (HG0.out.trans hW); go_simp; with_reducible rfl)
  refine held_take 6 (v := ?_) rfl (by kernel_rfl) (by kernel_rfl) (by kernel_rfl) (fun _ _ _ h => h) (by rfl) ?_ hS0 ?_
  rotate_left
  · (intro W hW; obtain ⟨x0, m0, m1, m2, m3, m4, m5, m6, m7, m8⟩ := blok9 (HX0.out.grew hW); rw [HL.out] at m8; obtain ⟨y0, n0, n1, n2, n3, n4, n5, n6, n7, n8⟩ := H9.out.grew (HG0.out.trans hW); go_simp; with_reducible rfl)
  refine held_take 7 (v := ?_) rfl (by kernel_rfl) (by kernel_rfl) (by kernel_rfl) (fun _ _ _ h => h) (by rfl) ?_ hS0 ?_
  rotate_left
  · (intro W hW; obtain ⟨x0, m0, m1, m2, m3, m4, m5, m6, m7, m8⟩ := blok9 (HX0.out.grew hW); rw [HL.out] at m8; obtain ⟨y0, n0, n1, n2, n3, n4, n5, n6, n7, n8⟩ := H9.out.grew (HG0.out.trans hW); go_simp; with_reducible rfl)
  refine held_take 8 (v := ?_) rfl (by kernel_rfl) (by kernel_rfl) (by kernel_rfl) (fun _ _ _ h => h) (by rfl) ?_ hS0 ?_
  rotate_left
  · (intro W hW; obtain ⟨x0, m0, m1, m2, m3, m4, m5, m6, m7, m8⟩ := blok9 (HX0.out.grew hW); rw [HL.out] at m8; obtain ⟨y0, n0, n1, n2, n3, n4, n5, n6, n7, n8⟩ := H9.out.grew (HG0.out.trans hW); go_simp; with_reducible rfl)
  refine held_take 9 (v := ?_) rfl (by kernel_rfl) (by kernel_rfl) (by kernel_rfl) (fun _ _ _ h => h) (by rfl) ?_ hS0 ?_
  rotate_left
  · (intro W hW; obtain ⟨x0, m0, m1, m2, m3, m4, m5, m6, m7, m8⟩ := blok9 (HX0.out.grew hW); rw [HL.out] at m8; obtain ⟨y0, n0, n1, n2, n3, n4, n5, n6, n7, n8⟩ := H9.out.grew (HG0.out.trans hW); go_simp; with_reducible rfl)
  refine held_take 10 (v := ?_) rfl (by kernel_rfl) (by kernel_rfl) (by kernel_rfl) (fun _ _ _ h => h) (by rfl) ?_ hS0 ?_
  rotate_left
  · (intro W hW; obtain ⟨x0, m0, m1, m2, m3, m4, m5, m6, m7, m8⟩ := blok9 (HX0.out.grew hW); rw [HL.out] at m8; obtain ⟨y0, n0, n1, n2, n3, n4, n5, n6, n7, n8⟩ := H9.out.grew (HG0.out.trans hW); go_simp; with_reducible rfl)
  refine held_take 13 (v := ?_) rfl (by kernel_rfl) (by kernel_rfl) (by kernel_rfl) (fun _ _ _ h => h) (by rfl) ?_ hS0 ?_
  rotate_left
  · (intro W hW; obtain ⟨x0, m0, m1, m2, m3, m4, m5, m6, m7, m8⟩ := blok9 (HX0.out.grew hW); rw [HL.out] at m8; obtain ⟨y0, n0, n1, n2, n3, n4, n5, n6, n7, n8⟩ := H9.out.grew (HG0.out.trans hW); go_simp; with_reducible rfl)
  refine held_take 14 (v := ?_) rfl (by kernel_rfl) (by kernel_rfl) (by kernel_rfl) (fun _ _ _ h => h) (by rfl) ?_ hS0 ?_
  rotate_left
  · (intro W hW; obtain ⟨x0, m0, m1, m2, m3, m4, m5, m6, m7, m8⟩ := blok9 (HX0.out.grew hW); rw [HL.out] at m8; obtain ⟨y0, n0, n1, n2, n3, n4, n5, n6, n7, n8⟩ := H9.out.grew (HG0.out.trans hW); go_simp; with_reducible rfl)
  refine held_take 15 (v := ?_) rfl (by kernel_rfl) (by kernel_rfl) (by kernel_rfl) (fun _ _ _ h => h) (by rfl) ?_ hS0 ?_
  rotate_left
  · (intro W hW; obtain ⟨x0, m0, m1, m2, m3, m4, m5, m6, m7, m8⟩ := blok9 (HX0.out.grew hW); rw [HL.out] at m8; obtain ⟨y0, n0, n1, n2, n3, n4, n5, n6, n7, n8⟩ := H9.out.grew (HG0.out.trans hW); go_simp; with_reducible rfl)
  refine held_take 16 (v := ?_) rfl (by kernel_rfl) (by kernel_rfl) (by kernel_rfl) (fun _ _ _ h => h) (by rfl) ?_ hS0 ?_
  rotate_left
  · (intro W hW; obtain ⟨x0, m0, m1, m2, m3, m4, m5, m6, m7, m8⟩ := blok9 (HX0.out.grew hW); rw [HL.out] at m8; obtain ⟨y0, n0, n1, n2, n3, n4, n5, n6, n7, n8⟩ := H9.out.grew (HG0.out.trans hW); go_simp; with_reducible rfl)
  refine held_take 17 (v := ?_) rfl (by kernel_rfl) (by kernel_rfl) (by kernel_rfl) (fun _ _ _ h => h) (by rfl) ?_ hS0 ?_
  rotate_left
  · (intro W hW; obtain ⟨x0, m0, m1, m2, m3, m4, m5, m6, m7, m8⟩ := blok9 (HX0.out.grew hW); rw [HL.out] at m8; obtain ⟨y0, n0, n1, n2, n3, n4, n5, n6, n7, n8⟩ := H9.out.grew (HG0.out.trans hW); go_simp; with_reducible rfl)
  refine held_take 18 (v := ?_) rfl (by kernel_rfl) (by kernel_rfl) (by kernel_rfl) (fun _ _ _ h => h) (by rfl) ?_ hS0 ?_
  rotate_left
  · (intro W hW; obtain ⟨x0, m0, m1, m2, m3, m4, m5, m6, m7, m8⟩ := blok9 (HX0.out.grew hW); rw [HL.out] at m8; obtain ⟨y0, n0, n1, n2, n3, n4, n5, n6, n7, n8⟩ := H9.out.grew (HG0.out.trans hW); go_simp; with_reducible rfl)
  refine held_norm (a' := ?_) ?_ ?_
  rotate_left
  · (go_simp; with_reducible rfl)
  refine held_call 11 (by kernel_rfl) rfl (by rfl) (fun K hK => ?_)
  go_simp
  go_wp2_with ((go_at_call 82; (with_reducible refine (H1.out _ (HG0.out.trans hS0)).mono ?_); rintro en wn ⟨Bc, jc, rfl, hg1, _⟩; have hS1 := hS0.trans hg1))
  refine hK.out _ _ hS1 ?_
  clear hK K
  refine held_take 12 (v := ?_) rfl (by kernel_rfl) (by kernel_rfl) (by kernel_rfl) (fun _ _ _ h => h) (by rfl) ?_ hS1 ?_
  rotate_left
  · (intro W hW; go_simp; with_reducible rfl)
  refine held_norm (a' := ?_) ?_ ?_
  rotate_left
  · (go_simp; with_reducible rfl)
  refine held_call 19 (by kernel_rfl) rfl (by rfl) (fun K hK => ?_)
  go_simp
  go_wp2_with ((go_at_call 43; (with_reducible refine (H2.out _ (HG0.out.trans hS1)).mono ?_); rintro en wn ⟨Bs, js, rfl, hg2, _⟩; have hS2 := hS1.trans hg2))
  refine hK.out _ _ hS2 ?_
  clear hK K
  refine held_take 20 (v := ?_) rfl (by kernel_rfl) (by kernel_rfl) (by kernel_rfl) (fun _ _ _ h => h) (by rfl) ?_ hS2 ?_
  rotate_left
  · (intro W hW; go_simp; with_reducible rfl)
  refine held_norm (a' := ?_) ?_ ?_
  rotate_left
  · (go_simp; with_reducible rfl)
  refine held_call 21 (by kernel_rfl) rfl (by rfl) (fun K hK => ?_)
  go_simp
  go_wp2_with ((go_at_call 81; (with_reducible refine (HF.out _).grows.mono ?_); rintro en wn ⟨rfl, hg3⟩; have hS3 := hS2.trans hg3))
  refine hK.out _ _ hS3 ?_
  clear hK K
  refine held_take 22 (v := ?_) rfl (by kernel_rfl) (by kernel_rfl) (by kernel_rfl) (fun _ _ _ h => h) (by rfl) ?_ hS3 ?_
  rotate_left
  · (intro W hW; go_simp; with_reducible rfl)
  refine held_norm (a' := ?_) ?_ ?_
  rotate_left
  · (go_simp; with_reducible rfl)
  refine held_done (by kernel_rfl) ?_
  have HGf := Lib.hid (HG0.out.trans hS3)
  obtain ⟨x0, m0, m1, m2, m3, m4, m5, m6, m7, m8⟩ := blok9 (HX0.out.grew hS3)
  clear hS3 hS2 hS1 hS0 hg1 hg2 hg3
  go_wp2_with (go_at_call 80; (with_reducible refine (HN.out _).mono ?_); rintro en wz ⟨rfl, hwz⟩; subst hwz)
  go_ret
  exact ⟨rfl, HGf.out⟩
set_option maxHeartbeats 4000000 in
set_option maxRecDepth 100000 in
theorem rsh_oth13 (l : List Sst) (x : Ex) (Ax : Option Addr) (kx : Nat) (A : Option Addr) (k : Nat) (w : World) (a : Ex) (b o : Nat) (B : Option Addr) (ka : Nat) (hA : Ax = some ⟨b, o, none⟩) (hsh : ∀ W, Grew w W → Gives Tryz.prog 41 #[exV a B ka, .slice A l.length k] W (.float .f64 (shareK (heldAll l) a))) (h9 : At9 w b o a B ka) (hlen : x.l.length = 1) (hop : x.op = 13) (ha15 : ¬ a.op = 15) :
    Gives Tryz.prog 41 #[exV x Ax kx, .slice A l.length k] w (.float .f64 (halfB)) := by
  subst hA
  obtain ⟨W0, hW0⟩ : ∃ W0, W0 = w.alloc (.cells (exC x (some ⟨b, o, none⟩) kx).toArray 27) := ⟨_, rfl⟩
  have HG0 : Hid (Grew w W0) := Lib.hid (by rw [hW0]; exact (Grew.refl w).alloc _)
  have HX0 : Hid (Blok W0 w.heap.size 27 (exC x (some ⟨b, o, none⟩) kx).toArray) := Lib.hid (by rw [hW0]; exact Blok.new _ _ _ _ rfl)
  obtain ⟨x0, m0, m1, m2, m3, m4, m5, m6, m7, m8⟩ := blok9 HX0.out
  have H9 := Lib.hid h9
  obtain ⟨y0, n0, n1, n2, n3, n4, n5, n6, n7, n8⟩ := h9.grew HG0.out
  have HSh := Lib.hid hsh
  have f0 : (x.op == 12) = false := by rw [hop]; rfl
  have f1 : (x.op == 13) = true := by rw [hop]; rfl
  have f2 : (x.op == 14) = false := by rw [hop]; rfl
  have f3 : (a.op == 15) = false := by rw [beq_eq_false_iff_ne]; exact ha15
  clear h9 hsh hop HSh ha15
  unfold halfB
  unfold exV at *
  unfold exC at hW0
  rw [hlen] at hW0 m8 ⊢
  have HL := Lib.hid hlen
  clear hlen
  unfold Gives
  go_enter Tryz.func41, Tryz.ntmps41
  go_upto_region 1 with fail
  rw [← hW0]
  clear hW0
  go_wp2
  go_ret
  exact ⟨rfl, HG0.out⟩
set_option maxHeartbeats 4000000 in
set_option maxRecDepth 100000 in
theorem rsh_oth14 (l : List Sst) (x : Ex) (Ax : Option Addr) (kx : Nat) (A : Option Addr) (k : Nat) (w : World) (a : Ex) (b o : Nat) (B : Option Addr) (ka : Nat) (hA : Ax = some ⟨b, o, none⟩) (hsh : ∀ W, Grew w W → Gives Tryz.prog 41 #[exV a B ka, .slice A l.length k] W (.float .f64 (shareK (heldAll l) a))) (h9 : At9 w b o a B ka) (hlen : x.l.length = 1) (hop : x.op = 14) (ha15 : ¬ a.op = 15) :
    Gives Tryz.prog 41 #[exV x Ax kx, .slice A l.length k] w (.float .f64 (halfB)) := by
  subst hA
  obtain ⟨W0, hW0⟩ : ∃ W0, W0 = w.alloc (.cells (exC x (some ⟨b, o, none⟩) kx).toArray 27) := ⟨_, rfl⟩
  have HG0 : Hid (Grew w W0) := Lib.hid (by rw [hW0]; exact (Grew.refl w).alloc _)
  have HX0 : Hid (Blok W0 w.heap.size 27 (exC x (some ⟨b, o, none⟩) kx).toArray) := Lib.hid (by rw [hW0]; exact Blok.new _ _ _ _ rfl)
  obtain ⟨x0, m0, m1, m2, m3, m4, m5, m6, m7, m8⟩ := blok9 HX0.out
  have H9 := Lib.hid h9
  obtain ⟨y0, n0, n1, n2, n3, n4, n5, n6, n7, n8⟩ := h9.grew HG0.out
  have HSh := Lib.hid hsh
  have f0 : (x.op == 12) = false := by rw [hop]; rfl
  have f1 : (x.op == 13) = false := by rw [hop]; rfl
  have f2 : (x.op == 14) = true := by rw [hop]; rfl
  have f3 : (a.op == 15) = false := by rw [beq_eq_false_iff_ne]; exact ha15
  clear h9 hsh hop HSh ha15
  unfold halfB
  unfold exV at *
  unfold exC at hW0
  rw [hlen] at hW0 m8 ⊢
  have HL := Lib.hid hlen
  clear hlen
  unfold Gives
  go_enter Tryz.func41, Tryz.ntmps41
  go_upto_region 1 with fail
  rw [← hW0]
  clear hW0
  go_wp2
  go_ret
  exact ⟨rfl, HG0.out⟩
set_option maxHeartbeats 4000000 in
set_option maxRecDepth 100000 in
theorem rsh_one (l : List Sst) (x : Ex) (Ax : Option Addr) (kx : Nat) (A : Option Addr) (k : Nat) (w : World) (a : Ex) (b o : Nat) (B : Option Addr) (ka : Nat) (hA : Ax = some ⟨b, o, none⟩) (hsh : ∀ W, Grew w W → Gives Tryz.prog 41 #[exV a B ka, .slice A l.length k] W (.float .f64 (shareK (heldAll l) a))) (h9 : At9 w b o a B ka) (hlen : x.l.length = 1) (h12 : ¬ x.op = 12) (h13 : ¬ x.op = 13) (h14 : ¬ x.op = 14) :
    Gives Tryz.prog 41 #[exV x Ax kx, .slice A l.length k] w (.float .f64 (halfB)) := by
  subst hA
  obtain ⟨W0, hW0⟩ : ∃ W0, W0 = w.alloc (.cells (exC x (some ⟨b, o, none⟩) kx).toArray 27) := ⟨_, rfl⟩
  have HG0 : Hid (Grew w W0) := Lib.hid (by rw [hW0]; exact (Grew.refl w).alloc _)
  have HX0 : Hid (Blok W0 w.heap.size 27 (exC x (some ⟨b, o, none⟩) kx).toArray) := Lib.hid (by rw [hW0]; exact Blok.new _ _ _ _ rfl)
  obtain ⟨x0, m0, m1, m2, m3, m4, m5, m6, m7, m8⟩ := blok9 HX0.out
  have H9 := Lib.hid h9
  obtain ⟨y0, n0, n1, n2, n3, n4, n5, n6, n7, n8⟩ := h9.grew HG0.out
  have HSh := Lib.hid hsh
  have f0 : (x.op == 12) = false := by rw [beq_eq_false_iff_ne]; exact h12
  have f1 : (x.op == 13) = false := by rw [beq_eq_false_iff_ne]; exact h13
  have f2 : (x.op == 14) = false := by rw [beq_eq_false_iff_ne]; exact h14
  clear h9 hsh HSh h12 h13 h14
  unfold halfB
  unfold exV at *
  unfold exC at hW0
  rw [hlen] at hW0 m8 ⊢
  have HL := Lib.hid hlen
  clear hlen
  unfold Gives
  go_enter Tryz.func41, Tryz.ntmps41
  go_upto_region 1 with fail
  rw [← hW0]
  clear hW0
  go_wp2
  go_ret
  exact ⟨rfl, HG0.out⟩
set_option maxHeartbeats 4000000 in
set_option maxRecDepth 100000 in
theorem rsh_none (l : List Sst) (x : Ex) (Ax : Option Addr) (kx : Nat) (A : Option Addr) (k : Nat) (w : World) (h1 : ¬ x.l.length = 1) (h2 : ¬ x.l.length = 2) :
    Gives Tryz.prog 41 #[exV x Ax kx, .slice A l.length k] w (.float .f64 (halfB)) := by
  obtain ⟨W0, hW0⟩ : ∃ W0, W0 = w.alloc (.cells (exC x Ax kx).toArray 27) := ⟨_, rfl⟩
  have HG0 : Hid (Grew w W0) := Lib.hid (by rw [hW0]; exact (Grew.refl w).alloc _)
  have HX0 : Hid (Blok W0 w.heap.size 27 (exC x Ax kx).toArray) := Lib.hid (by rw [hW0]; exact Blok.new _ _ _ _ rfl)
  obtain ⟨x0, m0, m1, m2, m3, m4, m5, m6, m7, m8⟩ := blok9 HX0.out
  have f0 : ((x.l.length : Int) == 2) = false := by rw [beq_eq_false_iff_ne]; omega
  have f1 : ((x.l.length : Int) == 1) = false := by rw [beq_eq_false_iff_ne]; omega
  have f2 : ((x.l.length : Int) != 2) = true := by rw [bne_iff_ne]; omega
  clear h1 h2
  unfold halfB
  unfold exV at *
  unfold exC at hW0
  generalize x.l.length = nl at *
  unfold Gives
  go_enter Tryz.func41, Tryz.ntmps41
  go_upto_region 1 with fail
  rw [← hW0]
  clear hW0
  go_wp2
  go_ret
  exact ⟨rfl, HG0.out⟩
set_option maxHeartbeats 4000000 in
set_option maxRecDepth 100000 in
theorem rsh_low (l : List Sst) (x : Ex) (Ax : Option Addr) (kx : Nat) (A : Option Addr) (k : Nat) (w : World) (a : Ex) (b o : Nat) (B : Option Addr) (ka : Nat) (hA : Ax = some ⟨b, o, none⟩) (hsh : ∀ W, Grew w W → Gives Tryz.prog 41 #[exV a B ka, .slice A l.length k] W (.float .f64 (shareK (heldAll l) a))) (h9 : At9 w b o a B ka) (a' : Ex) (B' : Option Addr) (ka' : Nat) (hsh' : ∀ W, Grew w W → Gives Tryz.prog 41 #[exV a' B' ka', .slice A l.length k] W (.float .f64 (shareK (heldAll l) a'))) (h9' : At9 w b (o + 9) a' B' ka') (hlen : x.l.length = 2) (h10 : ¬ x.op = 10) (h11 : ¬ x.op = 11) (hop : x.op < 1) :
    Gives Tryz.prog 41 #[exV x Ax kx, .slice A l.length k] w (.float .f64 (halfB)) := by
  subst hA
  obtain ⟨W0, hW0⟩ : ∃ W0, W0 = w.alloc (.cells (exC x (some ⟨b, o, none⟩) kx).toArray 27) := ⟨_, rfl⟩
  have HG0 : Hid (Grew w W0) := Lib.hid (by rw [hW0]; exact (Grew.refl w).alloc _)
  have HX0 : Hid (Blok W0 w.heap.size 27 (exC x (some ⟨b, o, none⟩) kx).toArray) := Lib.hid (by rw [hW0]; exact Blok.new _ _ _ _ rfl)
  obtain ⟨x0, m0, m1, m2, m3, m4, m5, m6, m7, m8⟩ := blok9 HX0.out
  have H9 := Lib.hid h9
  obtain ⟨y0, n0, n1, n2, n3, n4, n5, n6, n7, n8⟩ := h9.grew HG0.out
  have HSh := Lib.hid hsh
  have H9' := Lib.hid h9'
  obtain ⟨z0, p0, p1, p2, p3, p4, p5, p6, p7, p8⟩ := h9'.grew HG0.out
  have HSh' := Lib.hid hsh'
  have f0 : (x.op == 10) = false := by rw [beq_eq_false_iff_ne]; exact h10
  have f1 : (x.op == 11) = false := by rw [beq_eq_false_iff_ne]; exact h11
  clear h9 hsh HSh h9' hsh' HSh' h10 h11
  unfold halfB
  unfold exV at *
  unfold exC at hW0
  rw [hlen] at hW0 m8 ⊢
  have HL := Lib.hid hlen
  clear hlen
  unfold Gives
  go_enter Tryz.func41, Tryz.ntmps41
  go_upto_region 1 with fail
  rw [← hW0]
  clear hW0
  go_wp2
  go_ret
  exact ⟨rfl, HG0.out⟩
set_option maxHeartbeats 4000000 in
set_option maxRecDepth 100000 in
theorem rsh_high (l : List Sst) (x : Ex) (Ax : Option Addr) (kx : Nat) (A : Option Addr) (k : Nat) (w : World) (a : Ex) (b o : Nat) (B : Option Addr) (ka : Nat) (hA : Ax = some ⟨b, o, none⟩) (hsh : ∀ W, Grew w W → Gives Tryz.prog 41 #[exV a B ka, .slice A l.length k] W (.float .f64 (shareK (heldAll l) a))) (h9 : At9 w b o a B ka) (a' : Ex) (B' : Option Addr) (ka' : Nat) (hsh' : ∀ W, Grew w W → Gives Tryz.prog 41 #[exV a' B' ka', .slice A l.length k] W (.float .f64 (shareK (heldAll l) a'))) (h9' : At9 w b (o + 9) a' B' ka') (hlen : x.l.length = 2) (h10 : ¬ x.op = 10) (h11 : ¬ x.op = 11) (hop : 6 < x.op) :
    Gives Tryz.prog 41 #[exV x Ax kx, .slice A l.length k] w (.float .f64 (halfB)) := by
  subst hA
  obtain ⟨W0, hW0⟩ : ∃ W0, W0 = w.alloc (.cells (exC x (some ⟨b, o, none⟩) kx).toArray 27) := ⟨_, rfl⟩
  have HG0 : Hid (Grew w W0) := Lib.hid (by rw [hW0]; exact (Grew.refl w).alloc _)
  have HX0 : Hid (Blok W0 w.heap.size 27 (exC x (some ⟨b, o, none⟩) kx).toArray) := Lib.hid (by rw [hW0]; exact Blok.new _ _ _ _ rfl)
  obtain ⟨x0, m0, m1, m2, m3, m4, m5, m6, m7, m8⟩ := blok9 HX0.out
  have H9 := Lib.hid h9
  obtain ⟨y0, n0, n1, n2, n3, n4, n5, n6, n7, n8⟩ := h9.grew HG0.out
  have HSh := Lib.hid hsh
  have H9' := Lib.hid h9'
  obtain ⟨z0, p0, p1, p2, p3, p4, p5, p6, p7, p8⟩ := h9'.grew HG0.out
  have HSh' := Lib.hid hsh'
  have f0 : (x.op == 10) = false := by rw [beq_eq_false_iff_ne]; exact h10
  have f1 : (x.op == 11) = false := by rw [beq_eq_false_iff_ne]; exact h11
  have f2 : decide (x.op < 1) = false := decide_eq_false (by omega)
  clear h9 hsh HSh h9' hsh' HSh' h10 h11
  unfold halfB
  unfold exV at *
  unfold exC at hW0
  rw [hlen] at hW0 m8 ⊢
  have HL := Lib.hid hlen
  clear hlen
  unfold Gives
  go_enter Tryz.func41, Tryz.ntmps41
  go_upto_region 1 with fail
  rw [← hW0]
  clear hW0
  go_wp2
  go_ret
  exact ⟨rfl, HG0.out⟩
end Go.Proofs.YtbglmcebkpkccaaGreatDoor

/- Layer 29: the share of rows for which a comparison may be true, by the document. Condition: no more than a million columns and marks, what is said in memory that is there. -/
namespace Go.Proofs.YtbglmcebkpkccaaGreatDoor
open Go.RowKit
attribute [local go_sem] more_cell more_frozen more_more more_setCell more_of_drew more_of_drewN lt_more le_more past_cell past_cell2 past_frozen past_frozen2 past_setCell past_setCell2 mid_cell mid_frozen mid_setCell
attribute [local go_sem] fldC0 fldC1 fldS0
attribute [local go_sem ↓] Go.wp_at_zero Go.wp_at_succ

theorem tab7 {w : World} {g : Nat} {v0 v1 v2 v3 v4 v5 v6 : Value} (h : Blok w g 3 #[v0, v1, v2, v3, v4, v5, v6]) : g < w.heap.size ∧ w.cell? ⟨g, 1, none⟩ = some v1 ∧ w.cell? ⟨g, 2, none⟩ = some v2 ∧ w.cell? ⟨g, 3, none⟩ = some v3 ∧ w.cell? ⟨g, 4, none⟩ = some v4 ∧ w.cell? ⟨g, 5, none⟩ = some v5 ∧ w.cell? ⟨g, 6, none⟩ = some v6 :=
  ⟨h.lt, h.cell 1, h.cell 2, h.cell 3, h.cell 4, h.cell 5, h.cell 6⟩
set_option maxHeartbeats 4000000 in
set_option maxRecDepth 100000 in
theorem rsc_num (l : List Sst) (hm : LitSd l) (x : Ex) (kx : Nat) (A : Option Addr) (k : Nat) (w : World) (ra : SstsR (PRow w) A l) (a a' : Ex) (b o : Nat) (B B' : Option Addr) (ka ka' : Nat) (h9 : At9 w b o a B ka) (h9' : At9 w b (o + 9) a' B' ka') (hlen : x.l.length = 2) (op : Int) (hop : x.op = op) (ho1 : 1 ≤ op) (ho6 : op ≤ 6) (a15 : a.op = 15) (nb : isNum a' = true) :
    Gives Tryz.prog 41 #[exV x (some ⟨b, o, none⟩) kx, .slice A l.length k] w (.float .f64 (numK (heldAll l) op a.t a.c a'.vi)) := by
  have HB := Lib.hid (rknumber_any a' B' ka')
  rw [nb] at HB
  have HV : Hid (∀ W, Grew w W → Gives Tryz.prog 84 #[.slice A l.length k, .int .i64 a.t, .int .i64 a.c, .int .i64 op, .int .i64 a'.vi] W (.float .f64 (numK (heldAll l) op a.t a.c a'.vi))) := Lib.hid fun W hW => ragainst_any l hm a.t a.c op a'.vi ⟨ho1, ho6⟩ A k W (ra.grew hW)
  obtain ⟨W0, hW0⟩ : ∃ W0, W0 = w.alloc (.cells (exC x (some ⟨b, o, none⟩) kx).toArray 27) := ⟨_, rfl⟩
  have HG0 : Hid (Grew w W0) := Lib.hid (by rw [hW0]; exact (Grew.refl w).alloc _)
  have HX0 : Hid (Blok W0 w.heap.size 27 (exC x (some ⟨b, o, none⟩) kx).toArray) := Lib.hid (by rw [hW0]; exact Blok.new _ _ _ _ rfl)
  obtain ⟨x0, m0, m1, m2, m3, m4, m5, m6, m7, m8⟩ := blok9 HX0.out
  have H9 := Lib.hid h9
  obtain ⟨y0, n0, n1, n2, n3, n4, n5, n6, n7, n8⟩ := h9.grew HG0.out
  have H9' := Lib.hid h9'
  obtain ⟨z0, p0, p1, p2, p3, p4, p5, p6, p7, p8⟩ := h9'.grew HG0.out
  have HOp := Lib.hid hop
  rw [hop] at m0
  have e_a15 : (a.op == 15) = true := by simp [a15]
  have f0 : (op == 10) = false := by rw [beq_eq_false_iff_ne]; omega
  have f1 : (op == 11) = false := by rw [beq_eq_false_iff_ne]; omega
  have f2 : decide (op < 1) = false := decide_eq_false (by omega)
  have f3 : decide (6 < op) = false := decide_eq_false (by omega)
  clear ho1 ho6
  clear hm ra h9 h9' a15 nb
  unfold exV at *
  unfold exC at hW0
  rw [hlen] at hW0 m8 ⊢
  rw [hop] at hW0 ⊢
  clear hop
  have HL := Lib.hid hlen
  clear hlen
  unfold Gives
  go_enter Tryz.func41, Tryz.ntmps41
  go_upto_region 1 with fail
  rw [← hW0]
  clear hW0
  go_upto_region 15 with fail
  go_cut [7, 8] (fun u v wx => ∃ g7 g8, u = .pointer (some ⟨g7, 0, none⟩) ∧ v = .pointer (some ⟨g8, 0, none⟩) ∧ Blok wx g7 27 (exC a B ka).toArray ∧ Blok wx g8 27 (exC a' B' ka').toArray ∧ Grew W0 wx)
  case first =>
    clear x0 m0 m1 m2 m3 m4 m5 m6 m7 m8 y0 n0 n1 n2 n3 n4 n5 n6 n7 n8 z0 p0 p1 p2 p3 p4 p5 p6 p7 p8
    refine wp_region_S (fun W => Grew W0 W) (by kernel_rfl) ?_
    refine held_take 0 (v := ?_) rfl (by kernel_rfl) (by kernel_rfl) (by kernel_rfl) (fun _ _ _ h => h) (by rfl) ?_ (Grew.refl _).drew ?_
    rotate_left
    · (intro W hW; obtain ⟨x0, m0, m1, m2, m3, m4, m5, m6, m7, m8⟩ := blok9 (HX0.out.grew hW); rw [HL.out] at m8; rw [HOp.out] at m0; obtain ⟨y0, n0, n1, n2, n3, n4, n5, n6, n7, n8⟩ := H9.out.grew (HG0.out.trans hW); obtain ⟨z0, p0, p1, p2, p3, p4, p5, p6, p7, p8⟩ := H9'.out.grew (HG0.out.trans hW); go_simp; with_reducible rfl)
    refine held_take 1 (v := ?_) rfl (by kernel_rfl) (by kernel_rfl) (by kernel_rfl) (fun _ _ _ h => h) (by rfl) ?_ (Grew.refl _).drew ?_
    rotate_left
    · (intro W hW; obtain ⟨x0, m0, m1, m2, m3, m4, m5, m6, m7, m8⟩ := blok9 (HX0.out.grew hW); rw [HL.out] at m8; rw [HOp.out] at m0; obtain ⟨y0, n0, n1, n2, n3, n4, n5, n6, n7, n8⟩ := H9.out.grew (HG0.out.trans hW); obtain ⟨z0, p0, p1, p2, p3, p4, p5, p6, p7, p8⟩ := H9'.out.grew (HG0.out.trans hW); go_simp; with_reducible rfl)
    refine held_take 2 (v := ?_) rfl (by kernel_rfl) (by kernel_rfl) (by kernel_rfl) (fun _ _ _ h => h) (by rfl) ?_ (Grew.refl _).drew ?_
    rotate_left
    · (intro W hW; obtain ⟨x0, m0, m1, m2, m3, m4, m5, m6, m7, m8⟩ := blok9 (HX0.out.grew hW); rw [HL.out] at m8; rw [HOp.out] at m0; obtain ⟨y0, n0, n1, n2, n3, n4, n5, n6, n7, n8⟩ := H9.out.grew (HG0.out.trans hW); obtain ⟨z0, p0, p1, p2, p3, p4, p5, p6, p7, p8⟩ := H9'.out.grew (HG0.out.trans hW); go_simp; with_reducible rfl)
    refine held_take 3 (v := ?_) rfl (by kernel_rfl) (by kernel_rfl) (by kernel_rfl) (fun _ _ _ h => h) (by rfl) ?_ (Grew.refl _).drew ?_
    rotate_left
    · (intro W hW; obtain ⟨x0, m0, m1, m2, m3, m4, m5, m6, m7, m8⟩ := blok9 (HX0.out.grew hW); rw [HL.out] at m8; rw [HOp.out] at m0; obtain ⟨y0, n0, n1, n2, n3, n4, n5, n6, n7, n8⟩ := H9.out.grew (HG0.out.trans hW); obtain ⟨z0, p0, p1, p2, p3, p4, p5, p6, p7, p8⟩ := H9'.out.grew (HG0.out.trans hW); go_simp; with_reducible rfl)
    refine held_take 4 (v := ?_) rfl (by kernel_rfl) (by kernel_rfl) (by kernel_rfl) (fun _ _ _ h => h) (by rfl) ?_ (Grew.refl _).drew ?_
    rotate_left
    · (intro W hW; obtain ⟨x0, m0, m1, m2, m3, m4, m5, m6, m7, m8⟩ := blok9 (HX0.out.grew hW); rw [HL.out] at m8; rw [HOp.out] at m0; obtain ⟨y0, n0, n1, n2, n3, n4, n5, n6, n7, n8⟩ := H9.out.grew (HG0.out.trans hW); obtain ⟨z0, p0, p1, p2, p3, p4, p5, p6, p7, p8⟩ := H9'.out.grew (HG0.out.trans hW); go_simp; with_reducible rfl)
    refine held_take 5 (v := ?_) rfl (by kernel_rfl) (by kernel_rfl) (by kernel_rfl) (fun _ _ _ h => h) (by rfl) ?_ (Grew.refl _).drew ?_
    rotate_left
    · (intro W hW; obtain ⟨x0, m0, m1, m2, m3, m4, m5, m6, m7, m8⟩ := blok9 (HX0.out.grew hW); rw [HL.out] at m8; rw [HOp.out] at m0; obtain ⟨y0, n0, n1, n2, n3, n4, n5, n6, n7, n8⟩ := H9.out.grew (HG0.out.trans hW); obtain ⟨z0, p0, p1, p2, p3, p4, p5, p6, p7, p8⟩ := H9'.out.grew (HG0.out.trans hW); go_simp; with_reducible rfl)
    refine held_take 6 (v := ?_) rfl (by kernel_rfl) (by kernel_rfl) (by kernel_rfl) (fun _ _ _ h => h) (by rfl) ?_ (Grew.refl _).drew ?_
    rotate_left
    · (intro W hW; obtain ⟨x0, m0, m1, m2, m3, m4, m5, m6, m7, m8⟩ := blok9 (HX0.out.grew hW); rw [HL.out] at m8; rw [HOp.out] at m0; obtain ⟨y0, n0, n1, n2, n3, n4, n5, n6, n7, n8⟩ := H9.out.grew (HG0.out.trans hW); obtain ⟨z0, p0, p1, p2, p3, p4, p5, p6, p7, p8⟩ := H9'.out.grew (HG0.out.trans hW); go_simp; with_reducible rfl)
    refine held_take 7 (v := ?_) rfl (by kernel_rfl) (by kernel_rfl) (by kernel_rfl) (fun _ _ _ h => h) (by rfl) ?_ (Grew.refl _).drew ?_
    rotate_left
    · (intro W hW; obtain ⟨x0, m0, m1, m2, m3, m4, m5, m6, m7, m8⟩ := blok9 (HX0.out.grew hW); rw [HL.out] at m8; rw [HOp.out] at m0; obtain ⟨y0, n0, n1, n2, n3, n4, n5, n6, n7, n8⟩ := H9.out.grew (HG0.out.trans hW); obtain ⟨z0, p0, p1, p2, p3, p4, p5, p6, p7, p8⟩ := H9'.out.grew (HG0.out.trans hW); go_simp; with_reducible rfl)
    refine held_norm (a' := ?_) ?_ ?_
    rotate_left
    · (go_simp; with_reducible rfl)
    refine held_pair 8 9 (by kernel_rfl) rfl rfl (by rfl) (by rfl) (fun K hK => ?_) (fun K hK => ?_)
    · go_simp
      go_wp2_with fail
      refine hK.out _ _ (by repeat (first | exact Grew.refl _ | refine Grew.alloc ?_ _ | refine Grew.drew ?_ | refine Grew.setCell ?_ (by simp) _)) ?_
      clear hK K
      refine held_call 9 (by kernel_rfl) rfl (by rfl) (fun K hK => ?_)
      go_simp
      go_wp2_with fail
      refine hK.out _ _ (by repeat (first | exact Grew.refl _ | refine Grew.alloc ?_ _ | refine Grew.drew ?_ | refine Grew.setCell ?_ (by simp) _)) ?_
      clear hK K
      refine held_call 10 (by kernel_rfl) rfl (by rfl) (fun K hK => ?_)
      go_simp
      go_wp2_with fail
      refine hK.out _ _ (by repeat (first | exact Grew.refl _ | refine Grew.alloc ?_ _ | refine Grew.drew ?_ | refine Grew.setCell ?_ (by simp) _)) ?_
      clear hK K
      refine held_call 11 (by kernel_rfl) rfl (by rfl) (fun K hK => ?_)
      go_simp
      go_wp2_with fail
      refine hK.out _ _ (by repeat (first | exact Grew.refl _ | refine Grew.alloc ?_ _ | refine Grew.drew ?_ | refine Grew.setCell ?_ (by simp) _)) ?_
      clear hK K
      refine held_done (by kernel_rfl) ?_
      go_wp2_with fail
      go_meet
      exact ⟨_, _, rfl, rfl, (Blok.new _ _ _ _ rfl).alloc _, Blok.new _ _ _ _ (by simp), (by repeat (first | exact Grew.refl _ | refine Grew.alloc ?_ _ | refine Grew.drew ?_ | refine Grew.setCell ?_ (by simp) _))⟩
    · go_simp
      go_wp2_with fail
      refine hK.out _ _ (by repeat (first | exact Grew.refl _ | refine Grew.alloc ?_ _ | refine Grew.drew ?_ | refine Grew.setCell ?_ (by simp) _)) ?_
      clear hK K
      refine held_call 8 (by kernel_rfl) rfl (by rfl) (fun K hK => ?_)
      go_simp
      go_wp2_with fail
      refine hK.out _ _ (by repeat (first | exact Grew.refl _ | refine Grew.alloc ?_ _ | refine Grew.drew ?_ | refine Grew.setCell ?_ (by simp) _)) ?_
      clear hK K
      refine held_call 10 (by kernel_rfl) rfl (by rfl) (fun K hK => ?_)
      go_simp
      go_wp2_with fail
      refine hK.out _ _ (by repeat (first | exact Grew.refl _ | refine Grew.alloc ?_ _ | refine Grew.drew ?_ | refine Grew.setCell ?_ (by simp) _)) ?_
      clear hK K
      refine held_call 11 (by kernel_rfl) rfl (by rfl) (fun K hK => ?_)
      go_simp
      go_wp2_with fail
      refine hK.out _ _ (by repeat (first | exact Grew.refl _ | refine Grew.alloc ?_ _ | refine Grew.drew ?_ | refine Grew.setCell ?_ (by simp) _)) ?_
      clear hK K
      refine held_done (by kernel_rfl) ?_
      go_wp2_with fail
      go_meet
      exact ⟨_, _, rfl, rfl, Blok.new _ _ _ _ (by simp), (Blok.new _ _ _ _ rfl).alloc _, (by repeat (first | exact Grew.refl _ | refine Grew.alloc ?_ _ | refine Grew.drew ?_ | refine Grew.setCell ?_ (by simp) _))⟩
  case rest =>
    obtain ⟨g7, g8, rfl, rfl, hb7, hb8, hg⟩ := hcut
    clear x0 m0 m1 m2 m3 m4 m5 m6 m7 m8 y0 n0 n1 n2 n3 n4 n5 n6 n7 n8 z0 p0 p1 p2 p3 p4 p5 p6 p7 p8 H9 H9'
    have HGc := Lib.hid hg
    have HB7 := Lib.hid hb7
    have HB8 := Lib.hid hb8
    obtain ⟨x0, m0, m1, m2, m3, m4, m5, m6, m7, m8⟩ := blok9 (HX0.out.grew HGc.out); rw [HL.out] at m8; rw [HOp.out] at m0
    obtain ⟨y0, n0, n1, n2, n3, n4, n5, n6, n7, n8⟩ := blok9 HB7.out
    obtain ⟨z0, p0, p1, p2, p3, p4, p5, p6, p7, p8⟩ := blok9 HB8.out
    clear hb7 hb8 hg
    go_wp2_with (first | (go_at_call 83; (with_reducible refine (HB.out _).grows.mono ?_); rintro en wn ⟨rfl, hgn⟩; have HGc := Lib.hid (HGc.out.trans hgn); obtain ⟨x0, m0, m1, m2, m3, m4, m5, m6, m7, m8⟩ := blok9 (HX0.out.grew HGc.out); rw [HL.out] at m8; rw [HOp.out] at m0; obtain ⟨y0, n0, n1, n2, n3, n4, n5, n6, n7, n8⟩ := blok9 (HB7.out.grew hgn); obtain ⟨z0, p0, p1, p2, p3, p4, p5, p6, p7, p8⟩ := blok9 (HB8.out.grew hgn); have HB7 := Lib.hid (HB7.out.grew hgn); have HB8 := Lib.hid (HB8.out.grew hgn); clear hgn) | (go_at_call 84; (with_reducible refine (HV.out _ (HG0.out.trans HGc.out)).grows.mono ?_); rintro en wn ⟨rfl, hgn⟩; have HGc := Lib.hid (HGc.out.trans hgn); obtain ⟨x0, m0, m1, m2, m3, m4, m5, m6, m7, m8⟩ := blok9 (HX0.out.grew HGc.out); rw [HL.out] at m8; rw [HOp.out] at m0; obtain ⟨y0, n0, n1, n2, n3, n4, n5, n6, n7, n8⟩ := blok9 (HB7.out.grew hgn); obtain ⟨z0, p0, p1, p2, p3, p4, p5, p6, p7, p8⟩ := blok9 (HB8.out.grew hgn); have HB7 := Lib.hid (HB7.out.grew hgn); have HB8 := Lib.hid (HB8.out.grew hgn); clear hgn))
    go_ret
    exact ⟨rfl, HG0.out.trans HGc.out⟩
set_option maxHeartbeats 4000000 in
set_option maxRecDepth 100000 in
theorem rsc_turn (l : List Sst) (hm : LitSd l) (x : Ex) (kx : Nat) (A : Option Addr) (k : Nat) (w : World) (ra : SstsR (PRow w) A l) (a a' : Ex) (b o : Nat) (B B' : Option Addr) (ka ka' : Nat) (h9 : At9 w b o a B ka) (h9' : At9 w b (o + 9) a' B' ka') (hlen : x.l.length = 2) (op : Int) (hop : x.op = op) (ho1 : 1 ≤ op) (ho6 : op ≤ 6) (a15 : ¬ a.op = 15) (b15 : a'.op = 15) (na : isNum a = true) :
    Gives Tryz.prog 41 #[exV x (some ⟨b, o, none⟩) kx, .slice A l.length k] w (.float .f64 (numK (heldAll l) (turnK op) a'.t a'.c a.vi)) := by
  have HA := Lib.hid (rknumber_any a B ka)
  rw [na] at HA
  have HV : Hid (∀ W, Grew w W → Gives Tryz.prog 84 #[.slice A l.length k, .int .i64 a'.t, .int .i64 a'.c, .int .i64 (turnK op), .int .i64 a.vi] W (.float .f64 (numK (heldAll l) (turnK op) a'.t a'.c a.vi))) := Lib.hid fun W hW => ragainst_any l hm a'.t a'.c (turnK op) a.vi (by unfold turnK; (repeat' split) <;> omega) A k W (ra.grew hW)
  obtain ⟨W0, hW0⟩ : ∃ W0, W0 = w.alloc (.cells (exC x (some ⟨b, o, none⟩) kx).toArray 27) := ⟨_, rfl⟩
  have HG0 : Hid (Grew w W0) := Lib.hid (by rw [hW0]; exact (Grew.refl w).alloc _)
  have HX0 : Hid (Blok W0 w.heap.size 27 (exC x (some ⟨b, o, none⟩) kx).toArray) := Lib.hid (by rw [hW0]; exact Blok.new _ _ _ _ rfl)
  obtain ⟨x0, m0, m1, m2, m3, m4, m5, m6, m7, m8⟩ := blok9 HX0.out
  have H9 := Lib.hid h9
  obtain ⟨y0, n0, n1, n2, n3, n4, n5, n6, n7, n8⟩ := h9.grew HG0.out
  have H9' := Lib.hid h9'
  obtain ⟨z0, p0, p1, p2, p3, p4, p5, p6, p7, p8⟩ := h9'.grew HG0.out
  have HOp := Lib.hid hop
  rw [hop] at m0
  have e_a15 : (a.op == 15) = false := by simp [a15]
  have e_b15 : (a'.op == 15) = true := by simp [b15]
  have f0 : (op == 10) = false := by rw [beq_eq_false_iff_ne]; omega
  have f1 : (op == 11) = false := by rw [beq_eq_false_iff_ne]; omega
  have f2 : decide (op < 1) = false := decide_eq_false (by omega)
  have f3 : decide (6 < op) = false := decide_eq_false (by omega)
  clear hm ra h9 h9' a15 b15 na
  have hop6 : op = 1 ∨ op = 2 ∨ op = 3 ∨ op = 4 ∨ op = 5 ∨ op = 6 := by omega
  clear ho1 ho6
  unfold exV at *
  unfold exC at hW0
  rw [hlen] at hW0 m8 ⊢
  rw [hop] at hW0 ⊢
  clear hop
  have HL := Lib.hid hlen
  clear hlen
  unfold Gives
  go_enter Tryz.func41, Tryz.ntmps41
  go_upto_region 1 with fail
  rw [← hW0]
  clear hW0
  go_upto_region 15 with fail
  go_cut [7, 8] (fun u v wx => ∃ g7 g8, u = .pointer (some ⟨g7, 0, none⟩) ∧ v = .pointer (some ⟨g8, 0, none⟩) ∧ Blok wx g7 27 (exC a B ka).toArray ∧ Blok wx g8 27 (exC a' B' ka').toArray ∧ Grew W0 wx)
  case first =>
    clear x0 m0 m1 m2 m3 m4 m5 m6 m7 m8 y0 n0 n1 n2 n3 n4 n5 n6 n7 n8 z0 p0 p1 p2 p3 p4 p5 p6 p7 p8
    refine wp_region_S (fun W => Grew W0 W) (by kernel_rfl) ?_
    refine held_take 0 (v := ?_) rfl (by kernel_rfl) (by kernel_rfl) (by kernel_rfl) (fun _ _ _ h => h) (by rfl) ?_ (Grew.refl _).drew ?_
    rotate_left
    · (intro W hW; obtain ⟨x0, m0, m1, m2, m3, m4, m5, m6, m7, m8⟩ := blok9 (HX0.out.grew hW); rw [HL.out] at m8; rw [HOp.out] at m0; obtain ⟨y0, n0, n1, n2, n3, n4, n5, n6, n7, n8⟩ := H9.out.grew (HG0.out.trans hW); obtain ⟨z0, p0, p1, p2, p3, p4, p5, p6, p7, p8⟩ := H9'.out.grew (HG0.out.trans hW); go_simp; with_reducible rfl)
    refine held_take 1 (v := ?_) rfl (by kernel_rfl) (by kernel_rfl) (by kernel_rfl) (fun _ _ _ h => h) (by rfl) ?_ (Grew.refl _).drew ?_
    rotate_left
    · (intro W hW; obtain ⟨x0, m0, m1, m2, m3, m4, m5, m6, m7, m8⟩ := blok9 (HX0.out.grew hW); rw [HL.out] at m8; rw [HOp.out] at m0; obtain ⟨y0, n0, n1, n2, n3, n4, n5, n6, n7, n8⟩ := H9.out.grew (HG0.out.trans hW); obtain ⟨z0, p0, p1, p2, p3, p4, p5, p6, p7, p8⟩ := H9'.out.grew (HG0.out.trans hW); go_simp; with_reducible rfl)
    refine held_take 2 (v := ?_) rfl (by kernel_rfl) (by kernel_rfl) (by kernel_rfl) (fun _ _ _ h => h) (by rfl) ?_ (Grew.refl _).drew ?_
    rotate_left
    · (intro W hW; obtain ⟨x0, m0, m1, m2, m3, m4, m5, m6, m7, m8⟩ := blok9 (HX0.out.grew hW); rw [HL.out] at m8; rw [HOp.out] at m0; obtain ⟨y0, n0, n1, n2, n3, n4, n5, n6, n7, n8⟩ := H9.out.grew (HG0.out.trans hW); obtain ⟨z0, p0, p1, p2, p3, p4, p5, p6, p7, p8⟩ := H9'.out.grew (HG0.out.trans hW); go_simp; with_reducible rfl)
    refine held_take 3 (v := ?_) rfl (by kernel_rfl) (by kernel_rfl) (by kernel_rfl) (fun _ _ _ h => h) (by rfl) ?_ (Grew.refl _).drew ?_
    rotate_left
    · (intro W hW; obtain ⟨x0, m0, m1, m2, m3, m4, m5, m6, m7, m8⟩ := blok9 (HX0.out.grew hW); rw [HL.out] at m8; rw [HOp.out] at m0; obtain ⟨y0, n0, n1, n2, n3, n4, n5, n6, n7, n8⟩ := H9.out.grew (HG0.out.trans hW); obtain ⟨z0, p0, p1, p2, p3, p4, p5, p6, p7, p8⟩ := H9'.out.grew (HG0.out.trans hW); go_simp; with_reducible rfl)
    refine held_take 4 (v := ?_) rfl (by kernel_rfl) (by kernel_rfl) (by kernel_rfl) (fun _ _ _ h => h) (by rfl) ?_ (Grew.refl _).drew ?_
    rotate_left
    · (intro W hW; obtain ⟨x0, m0, m1, m2, m3, m4, m5, m6, m7, m8⟩ := blok9 (HX0.out.grew hW); rw [HL.out] at m8; rw [HOp.out] at m0; obtain ⟨y0, n0, n1, n2, n3, n4, n5, n6, n7, n8⟩ := H9.out.grew (HG0.out.trans hW); obtain ⟨z0, p0, p1, p2, p3, p4, p5, p6, p7, p8⟩ := H9'.out.grew (HG0.out.trans hW); go_simp; with_reducible rfl)
    refine held_take 5 (v := ?_) rfl (by kernel_rfl) (by kernel_rfl) (by kernel_rfl) (fun _ _ _ h => h) (by rfl) ?_ (Grew.refl _).drew ?_
    rotate_left
    · (intro W hW; obtain ⟨x0, m0, m1, m2, m3, m4, m5, m6, m7, m8⟩ := blok9 (HX0.out.grew hW); rw [HL.out] at m8; rw [HOp.out] at m0; obtain ⟨y0, n0, n1, n2, n3, n4, n5, n6, n7, n8⟩ := H9.out.grew (HG0.out.trans hW); obtain ⟨z0, p0, p1, p2, p3, p4, p5, p6, p7, p8⟩ := H9'.out.grew (HG0.out.trans hW); go_simp; with_reducible rfl)
    refine held_take 6 (v := ?_) rfl (by kernel_rfl) (by kernel_rfl) (by kernel_rfl) (fun _ _ _ h => h) (by rfl) ?_ (Grew.refl _).drew ?_
    rotate_left
    · (intro W hW; obtain ⟨x0, m0, m1, m2, m3, m4, m5, m6, m7, m8⟩ := blok9 (HX0.out.grew hW); rw [HL.out] at m8; rw [HOp.out] at m0; obtain ⟨y0, n0, n1, n2, n3, n4, n5, n6, n7, n8⟩ := H9.out.grew (HG0.out.trans hW); obtain ⟨z0, p0, p1, p2, p3, p4, p5, p6, p7, p8⟩ := H9'.out.grew (HG0.out.trans hW); go_simp; with_reducible rfl)
    refine held_take 7 (v := ?_) rfl (by kernel_rfl) (by kernel_rfl) (by kernel_rfl) (fun _ _ _ h => h) (by rfl) ?_ (Grew.refl _).drew ?_
    rotate_left
    · (intro W hW; obtain ⟨x0, m0, m1, m2, m3, m4, m5, m6, m7, m8⟩ := blok9 (HX0.out.grew hW); rw [HL.out] at m8; rw [HOp.out] at m0; obtain ⟨y0, n0, n1, n2, n3, n4, n5, n6, n7, n8⟩ := H9.out.grew (HG0.out.trans hW); obtain ⟨z0, p0, p1, p2, p3, p4, p5, p6, p7, p8⟩ := H9'.out.grew (HG0.out.trans hW); go_simp; with_reducible rfl)
    refine held_norm (a' := ?_) ?_ ?_
    rotate_left
    · (go_simp; with_reducible rfl)
    refine held_pair 8 9 (by kernel_rfl) rfl rfl (by rfl) (by rfl) (fun K hK => ?_) (fun K hK => ?_)
    · go_simp
      go_wp2_with fail
      refine hK.out _ _ (by repeat (first | exact Grew.refl _ | refine Grew.alloc ?_ _ | refine Grew.drew ?_ | refine Grew.setCell ?_ (by simp) _)) ?_
      clear hK K
      refine held_call 9 (by kernel_rfl) rfl (by rfl) (fun K hK => ?_)
      go_simp
      go_wp2_with fail
      refine hK.out _ _ (by repeat (first | exact Grew.refl _ | refine Grew.alloc ?_ _ | refine Grew.drew ?_ | refine Grew.setCell ?_ (by simp) _)) ?_
      clear hK K
      refine held_call 10 (by kernel_rfl) rfl (by rfl) (fun K hK => ?_)
      go_simp
      go_wp2_with fail
      refine hK.out _ _ (by repeat (first | exact Grew.refl _ | refine Grew.alloc ?_ _ | refine Grew.drew ?_ | refine Grew.setCell ?_ (by simp) _)) ?_
      clear hK K
      refine held_call 11 (by kernel_rfl) rfl (by rfl) (fun K hK => ?_)
      go_simp
      go_wp2_with fail
      refine hK.out _ _ (by repeat (first | exact Grew.refl _ | refine Grew.alloc ?_ _ | refine Grew.drew ?_ | refine Grew.setCell ?_ (by simp) _)) ?_
      clear hK K
      refine held_done (by kernel_rfl) ?_
      go_wp2_with fail
      go_meet
      exact ⟨_, _, rfl, rfl, (Blok.new _ _ _ _ rfl).alloc _, Blok.new _ _ _ _ (by simp), (by repeat (first | exact Grew.refl _ | refine Grew.alloc ?_ _ | refine Grew.drew ?_ | refine Grew.setCell ?_ (by simp) _))⟩
    · go_simp
      go_wp2_with fail
      refine hK.out _ _ (by repeat (first | exact Grew.refl _ | refine Grew.alloc ?_ _ | refine Grew.drew ?_ | refine Grew.setCell ?_ (by simp) _)) ?_
      clear hK K
      refine held_call 8 (by kernel_rfl) rfl (by rfl) (fun K hK => ?_)
      go_simp
      go_wp2_with fail
      refine hK.out _ _ (by repeat (first | exact Grew.refl _ | refine Grew.alloc ?_ _ | refine Grew.drew ?_ | refine Grew.setCell ?_ (by simp) _)) ?_
      clear hK K
      refine held_call 10 (by kernel_rfl) rfl (by rfl) (fun K hK => ?_)
      go_simp
      go_wp2_with fail
      refine hK.out _ _ (by repeat (first | exact Grew.refl _ | refine Grew.alloc ?_ _ | refine Grew.drew ?_ | refine Grew.setCell ?_ (by simp) _)) ?_
      clear hK K
      refine held_call 11 (by kernel_rfl) rfl (by rfl) (fun K hK => ?_)
      go_simp
      go_wp2_with fail
      refine hK.out _ _ (by repeat (first | exact Grew.refl _ | refine Grew.alloc ?_ _ | refine Grew.drew ?_ | refine Grew.setCell ?_ (by simp) _)) ?_
      clear hK K
      refine held_done (by kernel_rfl) ?_
      go_wp2_with fail
      go_meet
      exact ⟨_, _, rfl, rfl, Blok.new _ _ _ _ (by simp), (Blok.new _ _ _ _ rfl).alloc _, (by repeat (first | exact Grew.refl _ | refine Grew.alloc ?_ _ | refine Grew.drew ?_ | refine Grew.setCell ?_ (by simp) _))⟩
  case rest =>
    obtain ⟨g7, g8, rfl, rfl, hb7, hb8, hg⟩ := hcut
    clear x0 m0 m1 m2 m3 m4 m5 m6 m7 m8 y0 n0 n1 n2 n3 n4 n5 n6 n7 n8 z0 p0 p1 p2 p3 p4 p5 p6 p7 p8 H9 H9'
    have HGc := Lib.hid hg
    have HB7 := Lib.hid hb7
    have HB8 := Lib.hid hb8
    obtain ⟨x0, m0, m1, m2, m3, m4, m5, m6, m7, m8⟩ := blok9 (HX0.out.grew HGc.out); rw [HL.out] at m8; rw [HOp.out] at m0
    obtain ⟨y0, n0, n1, n2, n3, n4, n5, n6, n7, n8⟩ := blok9 HB7.out
    obtain ⟨z0, p0, p1, p2, p3, p4, p5, p6, p7, p8⟩ := blok9 HB8.out
    clear hb7 hb8 hg
    rcases hop6 with rfl | rfl | rfl | rfl | rfl | rfl
    all_goals
      go_wp2_with (first | (go_at_call 83; (with_reducible refine (HA.out _).grows.mono ?_); rintro en wn ⟨rfl, hgn⟩; have HGc := Lib.hid (HGc.out.trans hgn); obtain ⟨x0, m0, m1, m2, m3, m4, m5, m6, m7, m8⟩ := blok9 (HX0.out.grew HGc.out); rw [HL.out] at m8; rw [HOp.out] at m0; obtain ⟨y0, n0, n1, n2, n3, n4, n5, n6, n7, n8⟩ := blok9 (HB7.out.grew hgn); obtain ⟨z0, p0, p1, p2, p3, p4, p5, p6, p7, p8⟩ := blok9 (HB8.out.grew hgn); have HB7 := Lib.hid (HB7.out.grew hgn); have HB8 := Lib.hid (HB8.out.grew hgn); clear hgn))
      obtain ⟨w9, hw9⟩ : ∃ w9, w9 = wn.alloc (.cells #[.int .i64 0, .int .i64 1, .int .i64 2, .int .i64 5, .int .i64 6, .int .i64 3, .int .i64 4] 3) := ⟨_, rfl⟩
      have HB9 : Hid (Blok w9 wn.heap.size 3 #[.int .i64 0, .int .i64 1, .int .i64 2, .int .i64 5, .int .i64 6, .int .i64 3, .int .i64 4]) := Lib.hid (by rw [hw9]; exact Blok.new _ _ _ _ rfl)
      have hg9 : Grew wn w9 := by rw [hw9]; exact (Grew.refl _).alloc _
      have HG9 := Lib.hid (HGc.out.trans hg9)
      have HB7 := Lib.hid (HB7.out.grew hg9)
      have HB8 := Lib.hid (HB8.out.grew hg9)
      rw [← hw9]
      clear hw9 hg9 x0 m0 m1 m2 m3 m4 m5 m6 m7 m8 y0 n0 n1 n2 n3 n4 n5 n6 n7 n8 z0 p0 p1 p2 p3 p4 p5 p6 p7 p8
      generalize wn.heap.size = g9 at *
      have hS0 : Grew w9 w9.drew := (Grew.refl w9).drew
      refine wp_region_S (fun W => Grew w9 W) (by kernel_rfl) ?_
      refine held_take 0 (v := ?_) rfl (by kernel_rfl) (by kernel_rfl) (by kernel_rfl) (fun _ _ _ h => h) (by rfl) ?_ hS0 ?_
      rotate_left
      · (intro W hW; obtain ⟨x0, m0, m1, m2, m3, m4, m5, m6, m7, m8⟩ := blok9 (HX0.out.grew (HG9.out.trans hW)); rw [HL.out] at m8; rw [HOp.out] at m0; obtain ⟨y0, n0, n1, n2, n3, n4, n5, n6, n7, n8⟩ := blok9 (HB7.out.grew hW); obtain ⟨z0, p0, p1, p2, p3, p4, p5, p6, p7, p8⟩ := blok9 (HB8.out.grew hW); obtain ⟨t0, t1, t2, t3, t4, t5, t6⟩ := tab7 (HB9.out.grew hW); go_simp; with_reducible rfl)
      refine held_take 1 (v := ?_) rfl (by kernel_rfl) (by kernel_rfl) (by kernel_rfl) (fun _ _ _ h => h) (by rfl) ?_ hS0 ?_
      rotate_left
      · (intro W hW; obtain ⟨x0, m0, m1, m2, m3, m4, m5, m6, m7, m8⟩ := blok9 (HX0.out.grew (HG9.out.trans hW)); rw [HL.out] at m8; rw [HOp.out] at m0; obtain ⟨y0, n0, n1, n2, n3, n4, n5, n6, n7, n8⟩ := blok9 (HB7.out.grew hW); obtain ⟨z0, p0, p1, p2, p3, p4, p5, p6, p7, p8⟩ := blok9 (HB8.out.grew hW); obtain ⟨t0, t1, t2, t3, t4, t5, t6⟩ := tab7 (HB9.out.grew hW); go_simp; with_reducible rfl)
      refine held_take 2 (v := ?_) rfl (by kernel_rfl) (by kernel_rfl) (by kernel_rfl) (fun _ _ _ h => h) (by rfl) ?_ hS0 ?_
      rotate_left
      · (intro W hW; obtain ⟨x0, m0, m1, m2, m3, m4, m5, m6, m7, m8⟩ := blok9 (HX0.out.grew (HG9.out.trans hW)); rw [HL.out] at m8; rw [HOp.out] at m0; obtain ⟨y0, n0, n1, n2, n3, n4, n5, n6, n7, n8⟩ := blok9 (HB7.out.grew hW); obtain ⟨z0, p0, p1, p2, p3, p4, p5, p6, p7, p8⟩ := blok9 (HB8.out.grew hW); obtain ⟨t0, t1, t2, t3, t4, t5, t6⟩ := tab7 (HB9.out.grew hW); go_simp; with_reducible rfl)
      refine held_take 3 (v := ?_) rfl (by kernel_rfl) (by kernel_rfl) (by kernel_rfl) (fun _ _ _ h => h) (by rfl) ?_ hS0 ?_
      rotate_left
      · (intro W hW; obtain ⟨x0, m0, m1, m2, m3, m4, m5, m6, m7, m8⟩ := blok9 (HX0.out.grew (HG9.out.trans hW)); rw [HL.out] at m8; rw [HOp.out] at m0; obtain ⟨y0, n0, n1, n2, n3, n4, n5, n6, n7, n8⟩ := blok9 (HB7.out.grew hW); obtain ⟨z0, p0, p1, p2, p3, p4, p5, p6, p7, p8⟩ := blok9 (HB8.out.grew hW); obtain ⟨t0, t1, t2, t3, t4, t5, t6⟩ := tab7 (HB9.out.grew hW); go_simp; with_reducible rfl)
      refine held_take 4 (v := ?_) rfl (by kernel_rfl) (by kernel_rfl) (by kernel_rfl) (fun _ _ _ h => h) (by rfl) ?_ hS0 ?_
      rotate_left
      · (intro W hW; obtain ⟨x0, m0, m1, m2, m3, m4, m5, m6, m7, m8⟩ := blok9 (HX0.out.grew (HG9.out.trans hW)); rw [HL.out] at m8; rw [HOp.out] at m0; obtain ⟨y0, n0, n1, n2, n3, n4, n5, n6, n7, n8⟩ := blok9 (HB7.out.grew hW); obtain ⟨z0, p0, p1, p2, p3, p4, p5, p6, p7, p8⟩ := blok9 (HB8.out.grew hW); obtain ⟨t0, t1, t2, t3, t4, t5, t6⟩ := tab7 (HB9.out.grew hW); go_simp; with_reducible rfl)
      refine held_take 5 (v := ?_) rfl (by kernel_rfl) (by kernel_rfl) (by kernel_rfl) (fun _ _ _ h => h) (by rfl) ?_ hS0 ?_
      rotate_left
      · (intro W hW; obtain ⟨x0, m0, m1, m2, m3, m4, m5, m6, m7, m8⟩ := blok9 (HX0.out.grew (HG9.out.trans hW)); rw [HL.out] at m8; rw [HOp.out] at m0; obtain ⟨y0, n0, n1, n2, n3, n4, n5, n6, n7, n8⟩ := blok9 (HB7.out.grew hW); obtain ⟨z0, p0, p1, p2, p3, p4, p5, p6, p7, p8⟩ := blok9 (HB8.out.grew hW); obtain ⟨t0, t1, t2, t3, t4, t5, t6⟩ := tab7 (HB9.out.grew hW); go_simp; with_reducible rfl)
      refine held_take 6 (v := ?_) rfl (by kernel_rfl) (by kernel_rfl) (by kernel_rfl) (fun _ _ _ h => h) (by rfl) ?_ hS0 ?_
      rotate_left
      · (intro W hW; obtain ⟨x0, m0, m1, m2, m3, m4, m5, m6, m7, m8⟩ := blok9 (HX0.out.grew (HG9.out.trans hW)); rw [HL.out] at m8; rw [HOp.out] at m0; obtain ⟨y0, n0, n1, n2, n3, n4, n5, n6, n7, n8⟩ := blok9 (HB7.out.grew hW); obtain ⟨z0, p0, p1, p2, p3, p4, p5, p6, p7, p8⟩ := blok9 (HB8.out.grew hW); obtain ⟨t0, t1, t2, t3, t4, t5, t6⟩ := tab7 (HB9.out.grew hW); go_simp; with_reducible rfl)
      refine held_take 7 (v := ?_) rfl (by kernel_rfl) (by kernel_rfl) (by kernel_rfl) (fun _ _ _ h => h) (by rfl) ?_ hS0 ?_
      rotate_left
      · (intro W hW; obtain ⟨x0, m0, m1, m2, m3, m4, m5, m6, m7, m8⟩ := blok9 (HX0.out.grew (HG9.out.trans hW)); rw [HL.out] at m8; rw [HOp.out] at m0; obtain ⟨y0, n0, n1, n2, n3, n4, n5, n6, n7, n8⟩ := blok9 (HB7.out.grew hW); obtain ⟨z0, p0, p1, p2, p3, p4, p5, p6, p7, p8⟩ := blok9 (HB8.out.grew hW); obtain ⟨t0, t1, t2, t3, t4, t5, t6⟩ := tab7 (HB9.out.grew hW); go_simp; with_reducible rfl)
      refine held_take 8 (v := ?_) rfl (by kernel_rfl) (by kernel_rfl) (by kernel_rfl) (fun _ _ _ h => h) (by rfl) ?_ hS0 ?_
      rotate_left
      · (intro W hW; obtain ⟨x0, m0, m1, m2, m3, m4, m5, m6, m7, m8⟩ := blok9 (HX0.out.grew (HG9.out.trans hW)); rw [HL.out] at m8; rw [HOp.out] at m0; obtain ⟨y0, n0, n1, n2, n3, n4, n5, n6, n7, n8⟩ := blok9 (HB7.out.grew hW); obtain ⟨z0, p0, p1, p2, p3, p4, p5, p6, p7, p8⟩ := blok9 (HB8.out.grew hW); obtain ⟨t0, t1, t2, t3, t4, t5, t6⟩ := tab7 (HB9.out.grew hW); go_simp; with_reducible rfl)
      refine held_take 9 (v := ?_) rfl (by kernel_rfl) (by kernel_rfl) (by kernel_rfl) (fun _ _ _ h => h) (by rfl) ?_ hS0 ?_
      rotate_left
      · (intro W hW; obtain ⟨x0, m0, m1, m2, m3, m4, m5, m6, m7, m8⟩ := blok9 (HX0.out.grew (HG9.out.trans hW)); rw [HL.out] at m8; rw [HOp.out] at m0; obtain ⟨y0, n0, n1, n2, n3, n4, n5, n6, n7, n8⟩ := blok9 (HB7.out.grew hW); obtain ⟨z0, p0, p1, p2, p3, p4, p5, p6, p7, p8⟩ := blok9 (HB8.out.grew hW); obtain ⟨t0, t1, t2, t3, t4, t5, t6⟩ := tab7 (HB9.out.grew hW); go_simp; with_reducible rfl)
      refine held_take 10 (v := ?_) rfl (by kernel_rfl) (by kernel_rfl) (by kernel_rfl) (fun _ _ _ h => h) (by rfl) ?_ hS0 ?_
      rotate_left
      · (intro W hW; obtain ⟨x0, m0, m1, m2, m3, m4, m5, m6, m7, m8⟩ := blok9 (HX0.out.grew (HG9.out.trans hW)); rw [HL.out] at m8; rw [HOp.out] at m0; obtain ⟨y0, n0, n1, n2, n3, n4, n5, n6, n7, n8⟩ := blok9 (HB7.out.grew hW); obtain ⟨z0, p0, p1, p2, p3, p4, p5, p6, p7, p8⟩ := blok9 (HB8.out.grew hW); obtain ⟨t0, t1, t2, t3, t4, t5, t6⟩ := tab7 (HB9.out.grew hW); go_simp; with_reducible rfl)
      refine held_take 11 (v := ?_) rfl (by kernel_rfl) (by kernel_rfl) (by kernel_rfl) (fun _ _ _ h => h) (by rfl) ?_ hS0 ?_
      rotate_left
      · (intro W hW; obtain ⟨x0, m0, m1, m2, m3, m4, m5, m6, m7, m8⟩ := blok9 (HX0.out.grew (HG9.out.trans hW)); rw [HL.out] at m8; rw [HOp.out] at m0; obtain ⟨y0, n0, n1, n2, n3, n4, n5, n6, n7, n8⟩ := blok9 (HB7.out.grew hW); obtain ⟨z0, p0, p1, p2, p3, p4, p5, p6, p7, p8⟩ := blok9 (HB8.out.grew hW); obtain ⟨t0, t1, t2, t3, t4, t5, t6⟩ := tab7 (HB9.out.grew hW); go_simp; with_reducible rfl)
      refine held_take 12 (v := ?_) rfl (by kernel_rfl) (by kernel_rfl) (by kernel_rfl) (fun _ _ _ h => h) (by rfl) ?_ hS0 ?_
      rotate_left
      · (intro W hW; obtain ⟨x0, m0, m1, m2, m3, m4, m5, m6, m7, m8⟩ := blok9 (HX0.out.grew (HG9.out.trans hW)); rw [HL.out] at m8; rw [HOp.out] at m0; obtain ⟨y0, n0, n1, n2, n3, n4, n5, n6, n7, n8⟩ := blok9 (HB7.out.grew hW); obtain ⟨z0, p0, p1, p2, p3, p4, p5, p6, p7, p8⟩ := blok9 (HB8.out.grew hW); obtain ⟨t0, t1, t2, t3, t4, t5, t6⟩ := tab7 (HB9.out.grew hW); go_simp; with_reducible rfl)
      refine held_norm (a' := ?_) ?_ ?_
      rotate_left
      · (go_simp; with_reducible rfl)
      refine held_call 13 (by kernel_rfl) rfl (by rfl) (fun K hK => ?_)
      go_simp
      go_wp2_with ((go_at_call 84; (refine (HV.out _ ((HG0.out.trans HG9.out).trans hS0)).grows.mono ?_); rintro en wm ⟨rfl, hgm⟩; have hS1 := hS0.trans hgm))
      refine hK.out _ _ hS1 ?_
      clear hK K
      refine held_take 14 (v := ?_) rfl (by kernel_rfl) (by kernel_rfl) (by kernel_rfl) (fun _ _ _ h => h) (by rfl) ?_ hS1 ?_
      rotate_left
      · (intro W hW; go_simp; with_reducible rfl)
      refine held_norm (a' := ?_) ?_ ?_
      rotate_left
      · (go_simp; with_reducible rfl)
      refine held_done (by kernel_rfl) ?_
      have HGf := Lib.hid ((HG0.out.trans HG9.out).trans hS1)
      clear hS1 hS0 hgm
      go_wp2
      go_ret
      exact ⟨rfl, HGf.out⟩
set_option maxHeartbeats 4000000 in
set_option maxRecDepth 100000 in
theorem rsc_same (l : List Sst) (hm : LitSd l) (x : Ex) (kx : Nat) (A : Option Addr) (k : Nat) (w : World) (ra : SstsR (PRow w) A l) (a a' : Ex) (b o : Nat) (B B' : Option Addr) (ka ka' : Nat) (h9 : At9 w b o a B ka) (h9' : At9 w b (o + 9) a' B' ka') (hlen : x.l.length = 2) (op : Int) (hop : x.op = op) (a15 : a.op = 15) (nb : isNum a' = false) (b15 : a'.op = 15) (na : isNum a = false) (o1 : op = 1) :
    Gives Tryz.prog 41 #[exV x (some ⟨b, o, none⟩) kx, .slice A l.length k] w (.float .f64 (sameK (heldAll l) a.t a.c a'.t a'.c)) := by
  have HA := Lib.hid (rknumber_any a B ka)
  rw [na] at HA
  have HB := Lib.hid (rknumber_any a' B' ka')
  rw [nb] at HB
  have HV : Hid (∀ W, Grew w W → Gives Tryz.prog 47 #[.slice A l.length k, .int .i64 a.t, .int .i64 a.c, .int .i64 a'.t, .int .i64 a'.c] W (.float .f64 (sameK (heldAll l) a.t a.c a'.t a'.c))) := Lib.hid fun W hW => requal_any l hm a.t a.c a'.t a'.c A k W (ra.grew hW)
  obtain ⟨W0, hW0⟩ : ∃ W0, W0 = w.alloc (.cells (exC x (some ⟨b, o, none⟩) kx).toArray 27) := ⟨_, rfl⟩
  have HG0 : Hid (Grew w W0) := Lib.hid (by rw [hW0]; exact (Grew.refl w).alloc _)
  have HX0 : Hid (Blok W0 w.heap.size 27 (exC x (some ⟨b, o, none⟩) kx).toArray) := Lib.hid (by rw [hW0]; exact Blok.new _ _ _ _ rfl)
  obtain ⟨x0, m0, m1, m2, m3, m4, m5, m6, m7, m8⟩ := blok9 HX0.out
  have H9 := Lib.hid h9
  obtain ⟨y0, n0, n1, n2, n3, n4, n5, n6, n7, n8⟩ := h9.grew HG0.out
  have H9' := Lib.hid h9'
  obtain ⟨z0, p0, p1, p2, p3, p4, p5, p6, p7, p8⟩ := h9'.grew HG0.out
  have HOp := Lib.hid hop
  rw [hop] at m0
  have e_a15 : (a.op == 15) = true := by simp [a15]
  have e_b15 : (a'.op == 15) = true := by simp [b15]
  have e_o1 : (op == 1) = true := by simp [o1]
  have f0 : (op == 10) = false := by rw [beq_eq_false_iff_ne]; omega
  have f1 : (op == 11) = false := by rw [beq_eq_false_iff_ne]; omega
  have f2 : decide (op < 1) = false := decide_eq_false (by omega)
  have f3 : decide (6 < op) = false := decide_eq_false (by omega)
  clear hm ra h9 h9' a15 nb b15 na o1
  unfold exV at *
  unfold exC at hW0
  rw [hlen] at hW0 m8 ⊢
  rw [hop] at hW0 ⊢
  clear hop
  have HL := Lib.hid hlen
  clear hlen
  unfold Gives
  go_enter Tryz.func41, Tryz.ntmps41
  go_upto_region 1 with fail
  rw [← hW0]
  clear hW0
  go_upto_region 15 with fail
  go_cut [7, 8] (fun u v wx => ∃ g7 g8, u = .pointer (some ⟨g7, 0, none⟩) ∧ v = .pointer (some ⟨g8, 0, none⟩) ∧ Blok wx g7 27 (exC a B ka).toArray ∧ Blok wx g8 27 (exC a' B' ka').toArray ∧ Grew W0 wx)
  case first =>
    clear x0 m0 m1 m2 m3 m4 m5 m6 m7 m8 y0 n0 n1 n2 n3 n4 n5 n6 n7 n8 z0 p0 p1 p2 p3 p4 p5 p6 p7 p8
    refine wp_region_S (fun W => Grew W0 W) (by kernel_rfl) ?_
    refine held_take 0 (v := ?_) rfl (by kernel_rfl) (by kernel_rfl) (by kernel_rfl) (fun _ _ _ h => h) (by rfl) ?_ (Grew.refl _).drew ?_
    rotate_left
    · (intro W hW; obtain ⟨x0, m0, m1, m2, m3, m4, m5, m6, m7, m8⟩ := blok9 (HX0.out.grew hW); rw [HL.out] at m8; rw [HOp.out] at m0; obtain ⟨y0, n0, n1, n2, n3, n4, n5, n6, n7, n8⟩ := H9.out.grew (HG0.out.trans hW); obtain ⟨z0, p0, p1, p2, p3, p4, p5, p6, p7, p8⟩ := H9'.out.grew (HG0.out.trans hW); go_simp; with_reducible rfl)
    refine held_take 1 (v := ?_) rfl (by kernel_rfl) (by kernel_rfl) (by kernel_rfl) (fun _ _ _ h => h) (by rfl) ?_ (Grew.refl _).drew ?_
    rotate_left
    · (intro W hW; obtain ⟨x0, m0, m1, m2, m3, m4, m5, m6, m7, m8⟩ := blok9 (HX0.out.grew hW); rw [HL.out] at m8; rw [HOp.out] at m0; obtain ⟨y0, n0, n1, n2, n3, n4, n5, n6, n7, n8⟩ := H9.out.grew (HG0.out.trans hW); obtain ⟨z0, p0, p1, p2, p3, p4, p5, p6, p7, p8⟩ := H9'.out.grew (HG0.out.trans hW); go_simp; with_reducible rfl)
    refine held_take 2 (v := ?_) rfl (by kernel_rfl) (by kernel_rfl) (by kernel_rfl) (fun _ _ _ h => h) (by rfl) ?_ (Grew.refl _).drew ?_
    rotate_left
    · (intro W hW; obtain ⟨x0, m0, m1, m2, m3, m4, m5, m6, m7, m8⟩ := blok9 (HX0.out.grew hW); rw [HL.out] at m8; rw [HOp.out] at m0; obtain ⟨y0, n0, n1, n2, n3, n4, n5, n6, n7, n8⟩ := H9.out.grew (HG0.out.trans hW); obtain ⟨z0, p0, p1, p2, p3, p4, p5, p6, p7, p8⟩ := H9'.out.grew (HG0.out.trans hW); go_simp; with_reducible rfl)
    refine held_take 3 (v := ?_) rfl (by kernel_rfl) (by kernel_rfl) (by kernel_rfl) (fun _ _ _ h => h) (by rfl) ?_ (Grew.refl _).drew ?_
    rotate_left
    · (intro W hW; obtain ⟨x0, m0, m1, m2, m3, m4, m5, m6, m7, m8⟩ := blok9 (HX0.out.grew hW); rw [HL.out] at m8; rw [HOp.out] at m0; obtain ⟨y0, n0, n1, n2, n3, n4, n5, n6, n7, n8⟩ := H9.out.grew (HG0.out.trans hW); obtain ⟨z0, p0, p1, p2, p3, p4, p5, p6, p7, p8⟩ := H9'.out.grew (HG0.out.trans hW); go_simp; with_reducible rfl)
    refine held_take 4 (v := ?_) rfl (by kernel_rfl) (by kernel_rfl) (by kernel_rfl) (fun _ _ _ h => h) (by rfl) ?_ (Grew.refl _).drew ?_
    rotate_left
    · (intro W hW; obtain ⟨x0, m0, m1, m2, m3, m4, m5, m6, m7, m8⟩ := blok9 (HX0.out.grew hW); rw [HL.out] at m8; rw [HOp.out] at m0; obtain ⟨y0, n0, n1, n2, n3, n4, n5, n6, n7, n8⟩ := H9.out.grew (HG0.out.trans hW); obtain ⟨z0, p0, p1, p2, p3, p4, p5, p6, p7, p8⟩ := H9'.out.grew (HG0.out.trans hW); go_simp; with_reducible rfl)
    refine held_take 5 (v := ?_) rfl (by kernel_rfl) (by kernel_rfl) (by kernel_rfl) (fun _ _ _ h => h) (by rfl) ?_ (Grew.refl _).drew ?_
    rotate_left
    · (intro W hW; obtain ⟨x0, m0, m1, m2, m3, m4, m5, m6, m7, m8⟩ := blok9 (HX0.out.grew hW); rw [HL.out] at m8; rw [HOp.out] at m0; obtain ⟨y0, n0, n1, n2, n3, n4, n5, n6, n7, n8⟩ := H9.out.grew (HG0.out.trans hW); obtain ⟨z0, p0, p1, p2, p3, p4, p5, p6, p7, p8⟩ := H9'.out.grew (HG0.out.trans hW); go_simp; with_reducible rfl)
    refine held_take 6 (v := ?_) rfl (by kernel_rfl) (by kernel_rfl) (by kernel_rfl) (fun _ _ _ h => h) (by rfl) ?_ (Grew.refl _).drew ?_
    rotate_left
    · (intro W hW; obtain ⟨x0, m0, m1, m2, m3, m4, m5, m6, m7, m8⟩ := blok9 (HX0.out.grew hW); rw [HL.out] at m8; rw [HOp.out] at m0; obtain ⟨y0, n0, n1, n2, n3, n4, n5, n6, n7, n8⟩ := H9.out.grew (HG0.out.trans hW); obtain ⟨z0, p0, p1, p2, p3, p4, p5, p6, p7, p8⟩ := H9'.out.grew (HG0.out.trans hW); go_simp; with_reducible rfl)
    refine held_take 7 (v := ?_) rfl (by kernel_rfl) (by kernel_rfl) (by kernel_rfl) (fun _ _ _ h => h) (by rfl) ?_ (Grew.refl _).drew ?_
    rotate_left
    · (intro W hW; obtain ⟨x0, m0, m1, m2, m3, m4, m5, m6, m7, m8⟩ := blok9 (HX0.out.grew hW); rw [HL.out] at m8; rw [HOp.out] at m0; obtain ⟨y0, n0, n1, n2, n3, n4, n5, n6, n7, n8⟩ := H9.out.grew (HG0.out.trans hW); obtain ⟨z0, p0, p1, p2, p3, p4, p5, p6, p7, p8⟩ := H9'.out.grew (HG0.out.trans hW); go_simp; with_reducible rfl)
    refine held_norm (a' := ?_) ?_ ?_
    rotate_left
    · (go_simp; with_reducible rfl)
    refine held_pair 8 9 (by kernel_rfl) rfl rfl (by rfl) (by rfl) (fun K hK => ?_) (fun K hK => ?_)
    · go_simp
      go_wp2_with fail
      refine hK.out _ _ (by repeat (first | exact Grew.refl _ | refine Grew.alloc ?_ _ | refine Grew.drew ?_ | refine Grew.setCell ?_ (by simp) _)) ?_
      clear hK K
      refine held_call 9 (by kernel_rfl) rfl (by rfl) (fun K hK => ?_)
      go_simp
      go_wp2_with fail
      refine hK.out _ _ (by repeat (first | exact Grew.refl _ | refine Grew.alloc ?_ _ | refine Grew.drew ?_ | refine Grew.setCell ?_ (by simp) _)) ?_
      clear hK K
      refine held_call 10 (by kernel_rfl) rfl (by rfl) (fun K hK => ?_)
      go_simp
      go_wp2_with fail
      refine hK.out _ _ (by repeat (first | exact Grew.refl _ | refine Grew.alloc ?_ _ | refine Grew.drew ?_ | refine Grew.setCell ?_ (by simp) _)) ?_
      clear hK K
      refine held_call 11 (by kernel_rfl) rfl (by rfl) (fun K hK => ?_)
      go_simp
      go_wp2_with fail
      refine hK.out _ _ (by repeat (first | exact Grew.refl _ | refine Grew.alloc ?_ _ | refine Grew.drew ?_ | refine Grew.setCell ?_ (by simp) _)) ?_
      clear hK K
      refine held_done (by kernel_rfl) ?_
      go_wp2_with fail
      go_meet
      exact ⟨_, _, rfl, rfl, (Blok.new _ _ _ _ rfl).alloc _, Blok.new _ _ _ _ (by simp), (by repeat (first | exact Grew.refl _ | refine Grew.alloc ?_ _ | refine Grew.drew ?_ | refine Grew.setCell ?_ (by simp) _))⟩
    · go_simp
      go_wp2_with fail
      refine hK.out _ _ (by repeat (first | exact Grew.refl _ | refine Grew.alloc ?_ _ | refine Grew.drew ?_ | refine Grew.setCell ?_ (by simp) _)) ?_
      clear hK K
      refine held_call 8 (by kernel_rfl) rfl (by rfl) (fun K hK => ?_)
      go_simp
      go_wp2_with fail
      refine hK.out _ _ (by repeat (first | exact Grew.refl _ | refine Grew.alloc ?_ _ | refine Grew.drew ?_ | refine Grew.setCell ?_ (by simp) _)) ?_
      clear hK K
      refine held_call 10 (by kernel_rfl) rfl (by rfl) (fun K hK => ?_)
      go_simp
      go_wp2_with fail
      refine hK.out _ _ (by repeat (first | exact Grew.refl _ | refine Grew.alloc ?_ _ | refine Grew.drew ?_ | refine Grew.setCell ?_ (by simp) _)) ?_
      clear hK K
      refine held_call 11 (by kernel_rfl) rfl (by rfl) (fun K hK => ?_)
      go_simp
      go_wp2_with fail
      refine hK.out _ _ (by repeat (first | exact Grew.refl _ | refine Grew.alloc ?_ _ | refine Grew.drew ?_ | refine Grew.setCell ?_ (by simp) _)) ?_
      clear hK K
      refine held_done (by kernel_rfl) ?_
      go_wp2_with fail
      go_meet
      exact ⟨_, _, rfl, rfl, Blok.new _ _ _ _ (by simp), (Blok.new _ _ _ _ rfl).alloc _, (by repeat (first | exact Grew.refl _ | refine Grew.alloc ?_ _ | refine Grew.drew ?_ | refine Grew.setCell ?_ (by simp) _))⟩
  case rest =>
    obtain ⟨g7, g8, rfl, rfl, hb7, hb8, hg⟩ := hcut
    clear x0 m0 m1 m2 m3 m4 m5 m6 m7 m8 y0 n0 n1 n2 n3 n4 n5 n6 n7 n8 z0 p0 p1 p2 p3 p4 p5 p6 p7 p8 H9 H9'
    have HGc := Lib.hid hg
    have HB7 := Lib.hid hb7
    have HB8 := Lib.hid hb8
    obtain ⟨x0, m0, m1, m2, m3, m4, m5, m6, m7, m8⟩ := blok9 (HX0.out.grew HGc.out); rw [HL.out] at m8; rw [HOp.out] at m0
    obtain ⟨y0, n0, n1, n2, n3, n4, n5, n6, n7, n8⟩ := blok9 HB7.out
    obtain ⟨z0, p0, p1, p2, p3, p4, p5, p6, p7, p8⟩ := blok9 HB8.out
    clear hb7 hb8 hg
    go_wp2_with (first | (go_at_call 83; (with_reducible refine (HA.out _).grows.mono ?_); rintro en wn ⟨rfl, hgn⟩; have HGc := Lib.hid (HGc.out.trans hgn); obtain ⟨x0, m0, m1, m2, m3, m4, m5, m6, m7, m8⟩ := blok9 (HX0.out.grew HGc.out); rw [HL.out] at m8; rw [HOp.out] at m0; obtain ⟨y0, n0, n1, n2, n3, n4, n5, n6, n7, n8⟩ := blok9 (HB7.out.grew hgn); obtain ⟨z0, p0, p1, p2, p3, p4, p5, p6, p7, p8⟩ := blok9 (HB8.out.grew hgn); have HB7 := Lib.hid (HB7.out.grew hgn); have HB8 := Lib.hid (HB8.out.grew hgn); clear hgn) | (go_at_call 83; (with_reducible refine (HB.out _).grows.mono ?_); rintro en wn ⟨rfl, hgn⟩; have HGc := Lib.hid (HGc.out.trans hgn); obtain ⟨x0, m0, m1, m2, m3, m4, m5, m6, m7, m8⟩ := blok9 (HX0.out.grew HGc.out); rw [HL.out] at m8; rw [HOp.out] at m0; obtain ⟨y0, n0, n1, n2, n3, n4, n5, n6, n7, n8⟩ := blok9 (HB7.out.grew hgn); obtain ⟨z0, p0, p1, p2, p3, p4, p5, p6, p7, p8⟩ := blok9 (HB8.out.grew hgn); have HB7 := Lib.hid (HB7.out.grew hgn); have HB8 := Lib.hid (HB8.out.grew hgn); clear hgn) | (go_at_call 47; (with_reducible refine (HV.out _ (HG0.out.trans HGc.out)).grows.mono ?_); rintro en wn ⟨rfl, hgn⟩; have HGc := Lib.hid (HGc.out.trans hgn); obtain ⟨x0, m0, m1, m2, m3, m4, m5, m6, m7, m8⟩ := blok9 (HX0.out.grew HGc.out); rw [HL.out] at m8; rw [HOp.out] at m0; obtain ⟨y0, n0, n1, n2, n3, n4, n5, n6, n7, n8⟩ := blok9 (HB7.out.grew hgn); obtain ⟨z0, p0, p1, p2, p3, p4, p5, p6, p7, p8⟩ := blok9 (HB8.out.grew hgn); have HB7 := Lib.hid (HB7.out.grew hgn); have HB8 := Lib.hid (HB8.out.grew hgn); clear hgn))
    go_ret
    exact ⟨rfl, HG0.out.trans HGc.out⟩
set_option maxHeartbeats 4000000 in
set_option maxRecDepth 100000 in
theorem rsc_h1 (l : List Sst) (x : Ex) (kx : Nat) (A : Option Addr) (k : Nat) (w : World) (a a' : Ex) (b o : Nat) (B B' : Option Addr) (ka ka' : Nat) (h9 : At9 w b o a B ka) (h9' : At9 w b (o + 9) a' B' ka') (hlen : x.l.length = 2) (op : Int) (hop : x.op = op) (ho1 : 1 ≤ op) (ho6 : op ≤ 6) (a15 : a.op = 15) (nb : isNum a' = false) (b15 : a'.op = 15) (na : isNum a = false) (o1 : ¬ op = 1) :
    Gives Tryz.prog 41 #[exV x (some ⟨b, o, none⟩) kx, .slice A l.length k] w (.float .f64 (halfB)) := by
  have HA := Lib.hid (rknumber_any a B ka)
  rw [na] at HA
  have HB := Lib.hid (rknumber_any a' B' ka')
  rw [nb] at HB
  obtain ⟨W0, hW0⟩ : ∃ W0, W0 = w.alloc (.cells (exC x (some ⟨b, o, none⟩) kx).toArray 27) := ⟨_, rfl⟩
  have HG0 : Hid (Grew w W0) := Lib.hid (by rw [hW0]; exact (Grew.refl w).alloc _)
  have HX0 : Hid (Blok W0 w.heap.size 27 (exC x (some ⟨b, o, none⟩) kx).toArray) := Lib.hid (by rw [hW0]; exact Blok.new _ _ _ _ rfl)
  obtain ⟨x0, m0, m1, m2, m3, m4, m5, m6, m7, m8⟩ := blok9 HX0.out
  have H9 := Lib.hid h9
  obtain ⟨y0, n0, n1, n2, n3, n4, n5, n6, n7, n8⟩ := h9.grew HG0.out
  have H9' := Lib.hid h9'
  obtain ⟨z0, p0, p1, p2, p3, p4, p5, p6, p7, p8⟩ := h9'.grew HG0.out
  have HOp := Lib.hid hop
  rw [hop] at m0
  have e_a15 : (a.op == 15) = true := by simp [a15]
  have e_b15 : (a'.op == 15) = true := by simp [b15]
  have e_o1 : (op == 1) = false := by simp [o1]
  have f0 : (op == 10) = false := by rw [beq_eq_false_iff_ne]; omega
  have f1 : (op == 11) = false := by rw [beq_eq_false_iff_ne]; omega
  have f2 : decide (op < 1) = false := decide_eq_false (by omega)
  have f3 : decide (6 < op) = false := decide_eq_false (by omega)
  clear ho1 ho6
  clear h9 h9' a15 nb b15 na o1
  unfold halfB
  unfold exV at *
  unfold exC at hW0
  rw [hlen] at hW0 m8 ⊢
  rw [hop] at hW0 ⊢
  clear hop
  have HL := Lib.hid hlen
  clear hlen
  unfold Gives
  go_enter Tryz.func41, Tryz.ntmps41
  go_upto_region 1 with fail
  rw [← hW0]
  clear hW0
  go_upto_region 15 with fail
  go_cut [7, 8] (fun u v wx => ∃ g7 g8, u = .pointer (some ⟨g7, 0, none⟩) ∧ v = .pointer (some ⟨g8, 0, none⟩) ∧ Blok wx g7 27 (exC a B ka).toArray ∧ Blok wx g8 27 (exC a' B' ka').toArray ∧ Grew W0 wx)
  case first =>
    clear x0 m0 m1 m2 m3 m4 m5 m6 m7 m8 y0 n0 n1 n2 n3 n4 n5 n6 n7 n8 z0 p0 p1 p2 p3 p4 p5 p6 p7 p8
    refine wp_region_S (fun W => Grew W0 W) (by kernel_rfl) ?_
    refine held_take 0 (v := ?_) rfl (by kernel_rfl) (by kernel_rfl) (by kernel_rfl) (fun _ _ _ h => h) (by rfl) ?_ (Grew.refl _).drew ?_
    rotate_left
    · (intro W hW; obtain ⟨x0, m0, m1, m2, m3, m4, m5, m6, m7, m8⟩ := blok9 (HX0.out.grew hW); rw [HL.out] at m8; rw [HOp.out] at m0; obtain ⟨y0, n0, n1, n2, n3, n4, n5, n6, n7, n8⟩ := H9.out.grew (HG0.out.trans hW); obtain ⟨z0, p0, p1, p2, p3, p4, p5, p6, p7, p8⟩ := H9'.out.grew (HG0.out.trans hW); go_simp; with_reducible rfl)
    refine held_take 1 (v := ?_) rfl (by kernel_rfl) (by kernel_rfl) (by kernel_rfl) (fun _ _ _ h => h) (by rfl) ?_ (Grew.refl _).drew ?_
    rotate_left
    · (intro W hW; obtain ⟨x0, m0, m1, m2, m3, m4, m5, m6, m7, m8⟩ := blok9 (HX0.out.grew hW); rw [HL.out] at m8; rw [HOp.out] at m0; obtain ⟨y0, n0, n1, n2, n3, n4, n5, n6, n7, n8⟩ := H9.out.grew (HG0.out.trans hW); obtain ⟨z0, p0, p1, p2, p3, p4, p5, p6, p7, p8⟩ := H9'.out.grew (HG0.out.trans hW); go_simp; with_reducible rfl)
    refine held_take 2 (v := ?_) rfl (by kernel_rfl) (by kernel_rfl) (by kernel_rfl) (fun _ _ _ h => h) (by rfl) ?_ (Grew.refl _).drew ?_
    rotate_left
    · (intro W hW; obtain ⟨x0, m0, m1, m2, m3, m4, m5, m6, m7, m8⟩ := blok9 (HX0.out.grew hW); rw [HL.out] at m8; rw [HOp.out] at m0; obtain ⟨y0, n0, n1, n2, n3, n4, n5, n6, n7, n8⟩ := H9.out.grew (HG0.out.trans hW); obtain ⟨z0, p0, p1, p2, p3, p4, p5, p6, p7, p8⟩ := H9'.out.grew (HG0.out.trans hW); go_simp; with_reducible rfl)
    refine held_take 3 (v := ?_) rfl (by kernel_rfl) (by kernel_rfl) (by kernel_rfl) (fun _ _ _ h => h) (by rfl) ?_ (Grew.refl _).drew ?_
    rotate_left
    · (intro W hW; obtain ⟨x0, m0, m1, m2, m3, m4, m5, m6, m7, m8⟩ := blok9 (HX0.out.grew hW); rw [HL.out] at m8; rw [HOp.out] at m0; obtain ⟨y0, n0, n1, n2, n3, n4, n5, n6, n7, n8⟩ := H9.out.grew (HG0.out.trans hW); obtain ⟨z0, p0, p1, p2, p3, p4, p5, p6, p7, p8⟩ := H9'.out.grew (HG0.out.trans hW); go_simp; with_reducible rfl)
    refine held_take 4 (v := ?_) rfl (by kernel_rfl) (by kernel_rfl) (by kernel_rfl) (fun _ _ _ h => h) (by rfl) ?_ (Grew.refl _).drew ?_
    rotate_left
    · (intro W hW; obtain ⟨x0, m0, m1, m2, m3, m4, m5, m6, m7, m8⟩ := blok9 (HX0.out.grew hW); rw [HL.out] at m8; rw [HOp.out] at m0; obtain ⟨y0, n0, n1, n2, n3, n4, n5, n6, n7, n8⟩ := H9.out.grew (HG0.out.trans hW); obtain ⟨z0, p0, p1, p2, p3, p4, p5, p6, p7, p8⟩ := H9'.out.grew (HG0.out.trans hW); go_simp; with_reducible rfl)
    refine held_take 5 (v := ?_) rfl (by kernel_rfl) (by kernel_rfl) (by kernel_rfl) (fun _ _ _ h => h) (by rfl) ?_ (Grew.refl _).drew ?_
    rotate_left
    · (intro W hW; obtain ⟨x0, m0, m1, m2, m3, m4, m5, m6, m7, m8⟩ := blok9 (HX0.out.grew hW); rw [HL.out] at m8; rw [HOp.out] at m0; obtain ⟨y0, n0, n1, n2, n3, n4, n5, n6, n7, n8⟩ := H9.out.grew (HG0.out.trans hW); obtain ⟨z0, p0, p1, p2, p3, p4, p5, p6, p7, p8⟩ := H9'.out.grew (HG0.out.trans hW); go_simp; with_reducible rfl)
    refine held_take 6 (v := ?_) rfl (by kernel_rfl) (by kernel_rfl) (by kernel_rfl) (fun _ _ _ h => h) (by rfl) ?_ (Grew.refl _).drew ?_
    rotate_left
    · (intro W hW; obtain ⟨x0, m0, m1, m2, m3, m4, m5, m6, m7, m8⟩ := blok9 (HX0.out.grew hW); rw [HL.out] at m8; rw [HOp.out] at m0; obtain ⟨y0, n0, n1, n2, n3, n4, n5, n6, n7, n8⟩ := H9.out.grew (HG0.out.trans hW); obtain ⟨z0, p0, p1, p2, p3, p4, p5, p6, p7, p8⟩ := H9'.out.grew (HG0.out.trans hW); go_simp; with_reducible rfl)
    refine held_take 7 (v := ?_) rfl (by kernel_rfl) (by kernel_rfl) (by kernel_rfl) (fun _ _ _ h => h) (by rfl) ?_ (Grew.refl _).drew ?_
    rotate_left
    · (intro W hW; obtain ⟨x0, m0, m1, m2, m3, m4, m5, m6, m7, m8⟩ := blok9 (HX0.out.grew hW); rw [HL.out] at m8; rw [HOp.out] at m0; obtain ⟨y0, n0, n1, n2, n3, n4, n5, n6, n7, n8⟩ := H9.out.grew (HG0.out.trans hW); obtain ⟨z0, p0, p1, p2, p3, p4, p5, p6, p7, p8⟩ := H9'.out.grew (HG0.out.trans hW); go_simp; with_reducible rfl)
    refine held_norm (a' := ?_) ?_ ?_
    rotate_left
    · (go_simp; with_reducible rfl)
    refine held_pair 8 9 (by kernel_rfl) rfl rfl (by rfl) (by rfl) (fun K hK => ?_) (fun K hK => ?_)
    · go_simp
      go_wp2_with fail
      refine hK.out _ _ (by repeat (first | exact Grew.refl _ | refine Grew.alloc ?_ _ | refine Grew.drew ?_ | refine Grew.setCell ?_ (by simp) _)) ?_
      clear hK K
      refine held_call 9 (by kernel_rfl) rfl (by rfl) (fun K hK => ?_)
      go_simp
      go_wp2_with fail
      refine hK.out _ _ (by repeat (first | exact Grew.refl _ | refine Grew.alloc ?_ _ | refine Grew.drew ?_ | refine Grew.setCell ?_ (by simp) _)) ?_
      clear hK K
      refine held_call 10 (by kernel_rfl) rfl (by rfl) (fun K hK => ?_)
      go_simp
      go_wp2_with fail
      refine hK.out _ _ (by repeat (first | exact Grew.refl _ | refine Grew.alloc ?_ _ | refine Grew.drew ?_ | refine Grew.setCell ?_ (by simp) _)) ?_
      clear hK K
      refine held_call 11 (by kernel_rfl) rfl (by rfl) (fun K hK => ?_)
      go_simp
      go_wp2_with fail
      refine hK.out _ _ (by repeat (first | exact Grew.refl _ | refine Grew.alloc ?_ _ | refine Grew.drew ?_ | refine Grew.setCell ?_ (by simp) _)) ?_
      clear hK K
      refine held_done (by kernel_rfl) ?_
      go_wp2_with fail
      go_meet
      exact ⟨_, _, rfl, rfl, (Blok.new _ _ _ _ rfl).alloc _, Blok.new _ _ _ _ (by simp), (by repeat (first | exact Grew.refl _ | refine Grew.alloc ?_ _ | refine Grew.drew ?_ | refine Grew.setCell ?_ (by simp) _))⟩
    · go_simp
      go_wp2_with fail
      refine hK.out _ _ (by repeat (first | exact Grew.refl _ | refine Grew.alloc ?_ _ | refine Grew.drew ?_ | refine Grew.setCell ?_ (by simp) _)) ?_
      clear hK K
      refine held_call 8 (by kernel_rfl) rfl (by rfl) (fun K hK => ?_)
      go_simp
      go_wp2_with fail
      refine hK.out _ _ (by repeat (first | exact Grew.refl _ | refine Grew.alloc ?_ _ | refine Grew.drew ?_ | refine Grew.setCell ?_ (by simp) _)) ?_
      clear hK K
      refine held_call 10 (by kernel_rfl) rfl (by rfl) (fun K hK => ?_)
      go_simp
      go_wp2_with fail
      refine hK.out _ _ (by repeat (first | exact Grew.refl _ | refine Grew.alloc ?_ _ | refine Grew.drew ?_ | refine Grew.setCell ?_ (by simp) _)) ?_
      clear hK K
      refine held_call 11 (by kernel_rfl) rfl (by rfl) (fun K hK => ?_)
      go_simp
      go_wp2_with fail
      refine hK.out _ _ (by repeat (first | exact Grew.refl _ | refine Grew.alloc ?_ _ | refine Grew.drew ?_ | refine Grew.setCell ?_ (by simp) _)) ?_
      clear hK K
      refine held_done (by kernel_rfl) ?_
      go_wp2_with fail
      go_meet
      exact ⟨_, _, rfl, rfl, Blok.new _ _ _ _ (by simp), (Blok.new _ _ _ _ rfl).alloc _, (by repeat (first | exact Grew.refl _ | refine Grew.alloc ?_ _ | refine Grew.drew ?_ | refine Grew.setCell ?_ (by simp) _))⟩
  case rest =>
    obtain ⟨g7, g8, rfl, rfl, hb7, hb8, hg⟩ := hcut
    clear x0 m0 m1 m2 m3 m4 m5 m6 m7 m8 y0 n0 n1 n2 n3 n4 n5 n6 n7 n8 z0 p0 p1 p2 p3 p4 p5 p6 p7 p8 H9 H9'
    have HGc := Lib.hid hg
    have HB7 := Lib.hid hb7
    have HB8 := Lib.hid hb8
    obtain ⟨x0, m0, m1, m2, m3, m4, m5, m6, m7, m8⟩ := blok9 (HX0.out.grew HGc.out); rw [HL.out] at m8; rw [HOp.out] at m0
    obtain ⟨y0, n0, n1, n2, n3, n4, n5, n6, n7, n8⟩ := blok9 HB7.out
    obtain ⟨z0, p0, p1, p2, p3, p4, p5, p6, p7, p8⟩ := blok9 HB8.out
    clear hb7 hb8 hg
    go_wp2_with (first | (go_at_call 83; (with_reducible refine (HA.out _).grows.mono ?_); rintro en wn ⟨rfl, hgn⟩; have HGc := Lib.hid (HGc.out.trans hgn); obtain ⟨x0, m0, m1, m2, m3, m4, m5, m6, m7, m8⟩ := blok9 (HX0.out.grew HGc.out); rw [HL.out] at m8; rw [HOp.out] at m0; obtain ⟨y0, n0, n1, n2, n3, n4, n5, n6, n7, n8⟩ := blok9 (HB7.out.grew hgn); obtain ⟨z0, p0, p1, p2, p3, p4, p5, p6, p7, p8⟩ := blok9 (HB8.out.grew hgn); have HB7 := Lib.hid (HB7.out.grew hgn); have HB8 := Lib.hid (HB8.out.grew hgn); clear hgn) | (go_at_call 83; (with_reducible refine (HB.out _).grows.mono ?_); rintro en wn ⟨rfl, hgn⟩; have HGc := Lib.hid (HGc.out.trans hgn); obtain ⟨x0, m0, m1, m2, m3, m4, m5, m6, m7, m8⟩ := blok9 (HX0.out.grew HGc.out); rw [HL.out] at m8; rw [HOp.out] at m0; obtain ⟨y0, n0, n1, n2, n3, n4, n5, n6, n7, n8⟩ := blok9 (HB7.out.grew hgn); obtain ⟨z0, p0, p1, p2, p3, p4, p5, p6, p7, p8⟩ := blok9 (HB8.out.grew hgn); have HB7 := Lib.hid (HB7.out.grew hgn); have HB8 := Lib.hid (HB8.out.grew hgn); clear hgn))
    go_ret
    exact ⟨rfl, HG0.out.trans HGc.out⟩
set_option maxHeartbeats 4000000 in
set_option maxRecDepth 100000 in
theorem rsc_h2 (l : List Sst) (x : Ex) (kx : Nat) (A : Option Addr) (k : Nat) (w : World) (a a' : Ex) (b o : Nat) (B B' : Option Addr) (ka ka' : Nat) (h9 : At9 w b o a B ka) (h9' : At9 w b (o + 9) a' B' ka') (hlen : x.l.length = 2) (op : Int) (hop : x.op = op) (ho1 : 1 ≤ op) (ho6 : op ≤ 6) (a15 : a.op = 15) (nb : isNum a' = false) (b15 : ¬ a'.op = 15) :
    Gives Tryz.prog 41 #[exV x (some ⟨b, o, none⟩) kx, .slice A l.length k] w (.float .f64 (halfB)) := by
  have HB := Lib.hid (rknumber_any a' B' ka')
  rw [nb] at HB
  obtain ⟨W0, hW0⟩ : ∃ W0, W0 = w.alloc (.cells (exC x (some ⟨b, o, none⟩) kx).toArray 27) := ⟨_, rfl⟩
  have HG0 : Hid (Grew w W0) := Lib.hid (by rw [hW0]; exact (Grew.refl w).alloc _)
  have HX0 : Hid (Blok W0 w.heap.size 27 (exC x (some ⟨b, o, none⟩) kx).toArray) := Lib.hid (by rw [hW0]; exact Blok.new _ _ _ _ rfl)
  obtain ⟨x0, m0, m1, m2, m3, m4, m5, m6, m7, m8⟩ := blok9 HX0.out
  have H9 := Lib.hid h9
  obtain ⟨y0, n0, n1, n2, n3, n4, n5, n6, n7, n8⟩ := h9.grew HG0.out
  have H9' := Lib.hid h9'
  obtain ⟨z0, p0, p1, p2, p3, p4, p5, p6, p7, p8⟩ := h9'.grew HG0.out
  have HOp := Lib.hid hop
  rw [hop] at m0
  have e_a15 : (a.op == 15) = true := by simp [a15]
  have e_b15 : (a'.op == 15) = false := by simp [b15]
  have f0 : (op == 10) = false := by rw [beq_eq_false_iff_ne]; omega
  have f1 : (op == 11) = false := by rw [beq_eq_false_iff_ne]; omega
  have f2 : decide (op < 1) = false := decide_eq_false (by omega)
  have f3 : decide (6 < op) = false := decide_eq_false (by omega)
  clear ho1 ho6
  clear h9 h9' a15 nb b15
  unfold halfB
  unfold exV at *
  unfold exC at hW0
  rw [hlen] at hW0 m8 ⊢
  rw [hop] at hW0 ⊢
  clear hop
  have HL := Lib.hid hlen
  clear hlen
  unfold Gives
  go_enter Tryz.func41, Tryz.ntmps41
  go_upto_region 1 with fail
  rw [← hW0]
  clear hW0
  go_upto_region 15 with fail
  go_cut [7, 8] (fun u v wx => ∃ g7 g8, u = .pointer (some ⟨g7, 0, none⟩) ∧ v = .pointer (some ⟨g8, 0, none⟩) ∧ Blok wx g7 27 (exC a B ka).toArray ∧ Blok wx g8 27 (exC a' B' ka').toArray ∧ Grew W0 wx)
  case first =>
    clear x0 m0 m1 m2 m3 m4 m5 m6 m7 m8 y0 n0 n1 n2 n3 n4 n5 n6 n7 n8 z0 p0 p1 p2 p3 p4 p5 p6 p7 p8
    refine wp_region_S (fun W => Grew W0 W) (by kernel_rfl) ?_
    refine held_take 0 (v := ?_) rfl (by kernel_rfl) (by kernel_rfl) (by kernel_rfl) (fun _ _ _ h => h) (by rfl) ?_ (Grew.refl _).drew ?_
    rotate_left
    · (intro W hW; obtain ⟨x0, m0, m1, m2, m3, m4, m5, m6, m7, m8⟩ := blok9 (HX0.out.grew hW); rw [HL.out] at m8; rw [HOp.out] at m0; obtain ⟨y0, n0, n1, n2, n3, n4, n5, n6, n7, n8⟩ := H9.out.grew (HG0.out.trans hW); obtain ⟨z0, p0, p1, p2, p3, p4, p5, p6, p7, p8⟩ := H9'.out.grew (HG0.out.trans hW); go_simp; with_reducible rfl)
    refine held_take 1 (v := ?_) rfl (by kernel_rfl) (by kernel_rfl) (by kernel_rfl) (fun _ _ _ h => h) (by rfl) ?_ (Grew.refl _).drew ?_
    rotate_left
    · (intro W hW; obtain ⟨x0, m0, m1, m2, m3, m4, m5, m6, m7, m8⟩ := blok9 (HX0.out.grew hW); rw [HL.out] at m8; rw [HOp.out] at m0; obtain ⟨y0, n0, n1, n2, n3, n4, n5, n6, n7, n8⟩ := H9.out.grew (HG0.out.trans hW); obtain ⟨z0, p0, p1, p2, p3, p4, p5, p6, p7, p8⟩ := H9'.out.grew (HG0.out.trans hW); go_simp; with_reducible rfl)
    refine held_take 2 (v := ?_) rfl (by kernel_rfl) (by kernel_rfl) (by kernel_rfl) (fun _ _ _ h => h) (by rfl) ?_ (Grew.refl _).drew ?_
    rotate_left
    · (intro W hW; obtain ⟨x0, m0, m1, m2, m3, m4, m5, m6, m7, m8⟩ := blok9 (HX0.out.grew hW); rw [HL.out] at m8; rw [HOp.out] at m0; obtain ⟨y0, n0, n1, n2, n3, n4, n5, n6, n7, n8⟩ := H9.out.grew (HG0.out.trans hW); obtain ⟨z0, p0, p1, p2, p3, p4, p5, p6, p7, p8⟩ := H9'.out.grew (HG0.out.trans hW); go_simp; with_reducible rfl)
    refine held_take 3 (v := ?_) rfl (by kernel_rfl) (by kernel_rfl) (by kernel_rfl) (fun _ _ _ h => h) (by rfl) ?_ (Grew.refl _).drew ?_
    rotate_left
    · (intro W hW; obtain ⟨x0, m0, m1, m2, m3, m4, m5, m6, m7, m8⟩ := blok9 (HX0.out.grew hW); rw [HL.out] at m8; rw [HOp.out] at m0; obtain ⟨y0, n0, n1, n2, n3, n4, n5, n6, n7, n8⟩ := H9.out.grew (HG0.out.trans hW); obtain ⟨z0, p0, p1, p2, p3, p4, p5, p6, p7, p8⟩ := H9'.out.grew (HG0.out.trans hW); go_simp; with_reducible rfl)
    refine held_take 4 (v := ?_) rfl (by kernel_rfl) (by kernel_rfl) (by kernel_rfl) (fun _ _ _ h => h) (by rfl) ?_ (Grew.refl _).drew ?_
    rotate_left
    · (intro W hW; obtain ⟨x0, m0, m1, m2, m3, m4, m5, m6, m7, m8⟩ := blok9 (HX0.out.grew hW); rw [HL.out] at m8; rw [HOp.out] at m0; obtain ⟨y0, n0, n1, n2, n3, n4, n5, n6, n7, n8⟩ := H9.out.grew (HG0.out.trans hW); obtain ⟨z0, p0, p1, p2, p3, p4, p5, p6, p7, p8⟩ := H9'.out.grew (HG0.out.trans hW); go_simp; with_reducible rfl)
    refine held_take 5 (v := ?_) rfl (by kernel_rfl) (by kernel_rfl) (by kernel_rfl) (fun _ _ _ h => h) (by rfl) ?_ (Grew.refl _).drew ?_
    rotate_left
    · (intro W hW; obtain ⟨x0, m0, m1, m2, m3, m4, m5, m6, m7, m8⟩ := blok9 (HX0.out.grew hW); rw [HL.out] at m8; rw [HOp.out] at m0; obtain ⟨y0, n0, n1, n2, n3, n4, n5, n6, n7, n8⟩ := H9.out.grew (HG0.out.trans hW); obtain ⟨z0, p0, p1, p2, p3, p4, p5, p6, p7, p8⟩ := H9'.out.grew (HG0.out.trans hW); go_simp; with_reducible rfl)
    refine held_take 6 (v := ?_) rfl (by kernel_rfl) (by kernel_rfl) (by kernel_rfl) (fun _ _ _ h => h) (by rfl) ?_ (Grew.refl _).drew ?_
    rotate_left
    · (intro W hW; obtain ⟨x0, m0, m1, m2, m3, m4, m5, m6, m7, m8⟩ := blok9 (HX0.out.grew hW); rw [HL.out] at m8; rw [HOp.out] at m0; obtain ⟨y0, n0, n1, n2, n3, n4, n5, n6, n7, n8⟩ := H9.out.grew (HG0.out.trans hW); obtain ⟨z0, p0, p1, p2, p3, p4, p5, p6, p7, p8⟩ := H9'.out.grew (HG0.out.trans hW); go_simp; with_reducible rfl)
    refine held_take 7 (v := ?_) rfl (by kernel_rfl) (by kernel_rfl) (by kernel_rfl) (fun _ _ _ h => h) (by rfl) ?_ (Grew.refl _).drew ?_
    rotate_left
    · (intro W hW; obtain ⟨x0, m0, m1, m2, m3, m4, m5, m6, m7, m8⟩ := blok9 (HX0.out.grew hW); rw [HL.out] at m8; rw [HOp.out] at m0; obtain ⟨y0, n0, n1, n2, n3, n4, n5, n6, n7, n8⟩ := H9.out.grew (HG0.out.trans hW); obtain ⟨z0, p0, p1, p2, p3, p4, p5, p6, p7, p8⟩ := H9'.out.grew (HG0.out.trans hW); go_simp; with_reducible rfl)
    refine held_norm (a' := ?_) ?_ ?_
    rotate_left
    · (go_simp; with_reducible rfl)
    refine held_pair 8 9 (by kernel_rfl) rfl rfl (by rfl) (by rfl) (fun K hK => ?_) (fun K hK => ?_)
    · go_simp
      go_wp2_with fail
      refine hK.out _ _ (by repeat (first | exact Grew.refl _ | refine Grew.alloc ?_ _ | refine Grew.drew ?_ | refine Grew.setCell ?_ (by simp) _)) ?_
      clear hK K
      refine held_call 9 (by kernel_rfl) rfl (by rfl) (fun K hK => ?_)
      go_simp
      go_wp2_with fail
      refine hK.out _ _ (by repeat (first | exact Grew.refl _ | refine Grew.alloc ?_ _ | refine Grew.drew ?_ | refine Grew.setCell ?_ (by simp) _)) ?_
      clear hK K
      refine held_call 10 (by kernel_rfl) rfl (by rfl) (fun K hK => ?_)
      go_simp
      go_wp2_with fail
      refine hK.out _ _ (by repeat (first | exact Grew.refl _ | refine Grew.alloc ?_ _ | refine Grew.drew ?_ | refine Grew.setCell ?_ (by simp) _)) ?_
      clear hK K
      refine held_call 11 (by kernel_rfl) rfl (by rfl) (fun K hK => ?_)
      go_simp
      go_wp2_with fail
      refine hK.out _ _ (by repeat (first | exact Grew.refl _ | refine Grew.alloc ?_ _ | refine Grew.drew ?_ | refine Grew.setCell ?_ (by simp) _)) ?_
      clear hK K
      refine held_done (by kernel_rfl) ?_
      go_wp2_with fail
      go_meet
      exact ⟨_, _, rfl, rfl, (Blok.new _ _ _ _ rfl).alloc _, Blok.new _ _ _ _ (by simp), (by repeat (first | exact Grew.refl _ | refine Grew.alloc ?_ _ | refine Grew.drew ?_ | refine Grew.setCell ?_ (by simp) _))⟩
    · go_simp
      go_wp2_with fail
      refine hK.out _ _ (by repeat (first | exact Grew.refl _ | refine Grew.alloc ?_ _ | refine Grew.drew ?_ | refine Grew.setCell ?_ (by simp) _)) ?_
      clear hK K
      refine held_call 8 (by kernel_rfl) rfl (by rfl) (fun K hK => ?_)
      go_simp
      go_wp2_with fail
      refine hK.out _ _ (by repeat (first | exact Grew.refl _ | refine Grew.alloc ?_ _ | refine Grew.drew ?_ | refine Grew.setCell ?_ (by simp) _)) ?_
      clear hK K
      refine held_call 10 (by kernel_rfl) rfl (by rfl) (fun K hK => ?_)
      go_simp
      go_wp2_with fail
      refine hK.out _ _ (by repeat (first | exact Grew.refl _ | refine Grew.alloc ?_ _ | refine Grew.drew ?_ | refine Grew.setCell ?_ (by simp) _)) ?_
      clear hK K
      refine held_call 11 (by kernel_rfl) rfl (by rfl) (fun K hK => ?_)
      go_simp
      go_wp2_with fail
      refine hK.out _ _ (by repeat (first | exact Grew.refl _ | refine Grew.alloc ?_ _ | refine Grew.drew ?_ | refine Grew.setCell ?_ (by simp) _)) ?_
      clear hK K
      refine held_done (by kernel_rfl) ?_
      go_wp2_with fail
      go_meet
      exact ⟨_, _, rfl, rfl, Blok.new _ _ _ _ (by simp), (Blok.new _ _ _ _ rfl).alloc _, (by repeat (first | exact Grew.refl _ | refine Grew.alloc ?_ _ | refine Grew.drew ?_ | refine Grew.setCell ?_ (by simp) _))⟩
  case rest =>
    obtain ⟨g7, g8, rfl, rfl, hb7, hb8, hg⟩ := hcut
    clear x0 m0 m1 m2 m3 m4 m5 m6 m7 m8 y0 n0 n1 n2 n3 n4 n5 n6 n7 n8 z0 p0 p1 p2 p3 p4 p5 p6 p7 p8 H9 H9'
    have HGc := Lib.hid hg
    have HB7 := Lib.hid hb7
    have HB8 := Lib.hid hb8
    obtain ⟨x0, m0, m1, m2, m3, m4, m5, m6, m7, m8⟩ := blok9 (HX0.out.grew HGc.out); rw [HL.out] at m8; rw [HOp.out] at m0
    obtain ⟨y0, n0, n1, n2, n3, n4, n5, n6, n7, n8⟩ := blok9 HB7.out
    obtain ⟨z0, p0, p1, p2, p3, p4, p5, p6, p7, p8⟩ := blok9 HB8.out
    clear hb7 hb8 hg
    go_wp2_with (first | (go_at_call 83; (with_reducible refine (HB.out _).grows.mono ?_); rintro en wn ⟨rfl, hgn⟩; have HGc := Lib.hid (HGc.out.trans hgn); obtain ⟨x0, m0, m1, m2, m3, m4, m5, m6, m7, m8⟩ := blok9 (HX0.out.grew HGc.out); rw [HL.out] at m8; rw [HOp.out] at m0; obtain ⟨y0, n0, n1, n2, n3, n4, n5, n6, n7, n8⟩ := blok9 (HB7.out.grew hgn); obtain ⟨z0, p0, p1, p2, p3, p4, p5, p6, p7, p8⟩ := blok9 (HB8.out.grew hgn); have HB7 := Lib.hid (HB7.out.grew hgn); have HB8 := Lib.hid (HB8.out.grew hgn); clear hgn))
    go_ret
    exact ⟨rfl, HG0.out.trans HGc.out⟩
set_option maxHeartbeats 4000000 in
set_option maxRecDepth 100000 in
theorem rsc_h3 (l : List Sst) (x : Ex) (kx : Nat) (A : Option Addr) (k : Nat) (w : World) (a a' : Ex) (b o : Nat) (B B' : Option Addr) (ka ka' : Nat) (h9 : At9 w b o a B ka) (h9' : At9 w b (o + 9) a' B' ka') (hlen : x.l.length = 2) (op : Int) (hop : x.op = op) (ho1 : 1 ≤ op) (ho6 : op ≤ 6) (a15 : ¬ a.op = 15) (b15 : a'.op = 15) (na : isNum a = false) :
    Gives Tryz.prog 41 #[exV x (some ⟨b, o, none⟩) kx, .slice A l.length k] w (.float .f64 (halfB)) := by
  have HA := Lib.hid (rknumber_any a B ka)
  rw [na] at HA
  obtain ⟨W0, hW0⟩ : ∃ W0, W0 = w.alloc (.cells (exC x (some ⟨b, o, none⟩) kx).toArray 27) := ⟨_, rfl⟩
  have HG0 : Hid (Grew w W0) := Lib.hid (by rw [hW0]; exact (Grew.refl w).alloc _)
  have HX0 : Hid (Blok W0 w.heap.size 27 (exC x (some ⟨b, o, none⟩) kx).toArray) := Lib.hid (by rw [hW0]; exact Blok.new _ _ _ _ rfl)
  obtain ⟨x0, m0, m1, m2, m3, m4, m5, m6, m7, m8⟩ := blok9 HX0.out
  have H9 := Lib.hid h9
  obtain ⟨y0, n0, n1, n2, n3, n4, n5, n6, n7, n8⟩ := h9.grew HG0.out
  have H9' := Lib.hid h9'
  obtain ⟨z0, p0, p1, p2, p3, p4, p5, p6, p7, p8⟩ := h9'.grew HG0.out
  have HOp := Lib.hid hop
  rw [hop] at m0
  have e_a15 : (a.op == 15) = false := by simp [a15]
  have e_b15 : (a'.op == 15) = true := by simp [b15]
  have f0 : (op == 10) = false := by rw [beq_eq_false_iff_ne]; omega
  have f1 : (op == 11) = false := by rw [beq_eq_false_iff_ne]; omega
  have f2 : decide (op < 1) = false := decide_eq_false (by omega)
  have f3 : decide (6 < op) = false := decide_eq_false (by omega)
  clear ho1 ho6
  clear h9 h9' a15 b15 na
  unfold halfB
  unfold exV at *
  unfold exC at hW0
  rw [hlen] at hW0 m8 ⊢
  rw [hop] at hW0 ⊢
  clear hop
  have HL := Lib.hid hlen
  clear hlen
  unfold Gives
  go_enter Tryz.func41, Tryz.ntmps41
  go_upto_region 1 with fail
  rw [← hW0]
  clear hW0
  go_upto_region 15 with fail
  go_cut [7, 8] (fun u v wx => ∃ g7 g8, u = .pointer (some ⟨g7, 0, none⟩) ∧ v = .pointer (some ⟨g8, 0, none⟩) ∧ Blok wx g7 27 (exC a B ka).toArray ∧ Blok wx g8 27 (exC a' B' ka').toArray ∧ Grew W0 wx)
  case first =>
    clear x0 m0 m1 m2 m3 m4 m5 m6 m7 m8 y0 n0 n1 n2 n3 n4 n5 n6 n7 n8 z0 p0 p1 p2 p3 p4 p5 p6 p7 p8
    refine wp_region_S (fun W => Grew W0 W) (by kernel_rfl) ?_
    refine held_take 0 (v := ?_) rfl (by kernel_rfl) (by kernel_rfl) (by kernel_rfl) (fun _ _ _ h => h) (by rfl) ?_ (Grew.refl _).drew ?_
    rotate_left
    · (intro W hW; obtain ⟨x0, m0, m1, m2, m3, m4, m5, m6, m7, m8⟩ := blok9 (HX0.out.grew hW); rw [HL.out] at m8; rw [HOp.out] at m0; obtain ⟨y0, n0, n1, n2, n3, n4, n5, n6, n7, n8⟩ := H9.out.grew (HG0.out.trans hW); obtain ⟨z0, p0, p1, p2, p3, p4, p5, p6, p7, p8⟩ := H9'.out.grew (HG0.out.trans hW); go_simp; with_reducible rfl)
    refine held_take 1 (v := ?_) rfl (by kernel_rfl) (by kernel_rfl) (by kernel_rfl) (fun _ _ _ h => h) (by rfl) ?_ (Grew.refl _).drew ?_
    rotate_left
    · (intro W hW; obtain ⟨x0, m0, m1, m2, m3, m4, m5, m6, m7, m8⟩ := blok9 (HX0.out.grew hW); rw [HL.out] at m8; rw [HOp.out] at m0; obtain ⟨y0, n0, n1, n2, n3, n4, n5, n6, n7, n8⟩ := H9.out.grew (HG0.out.trans hW); obtain ⟨z0, p0, p1, p2, p3, p4, p5, p6, p7, p8⟩ := H9'.out.grew (HG0.out.trans hW); go_simp; with_reducible rfl)
    refine held_take 2 (v := ?_) rfl (by kernel_rfl) (by kernel_rfl) (by kernel_rfl) (fun _ _ _ h => h) (by rfl) ?_ (Grew.refl _).drew ?_
    rotate_left
    · (intro W hW; obtain ⟨x0, m0, m1, m2, m3, m4, m5, m6, m7, m8⟩ := blok9 (HX0.out.grew hW); rw [HL.out] at m8; rw [HOp.out] at m0; obtain ⟨y0, n0, n1, n2, n3, n4, n5, n6, n7, n8⟩ := H9.out.grew (HG0.out.trans hW); obtain ⟨z0, p0, p1, p2, p3, p4, p5, p6, p7, p8⟩ := H9'.out.grew (HG0.out.trans hW); go_simp; with_reducible rfl)
    refine held_take 3 (v := ?_) rfl (by kernel_rfl) (by kernel_rfl) (by kernel_rfl) (fun _ _ _ h => h) (by rfl) ?_ (Grew.refl _).drew ?_
    rotate_left
    · (intro W hW; obtain ⟨x0, m0, m1, m2, m3, m4, m5, m6, m7, m8⟩ := blok9 (HX0.out.grew hW); rw [HL.out] at m8; rw [HOp.out] at m0; obtain ⟨y0, n0, n1, n2, n3, n4, n5, n6, n7, n8⟩ := H9.out.grew (HG0.out.trans hW); obtain ⟨z0, p0, p1, p2, p3, p4, p5, p6, p7, p8⟩ := H9'.out.grew (HG0.out.trans hW); go_simp; with_reducible rfl)
    refine held_take 4 (v := ?_) rfl (by kernel_rfl) (by kernel_rfl) (by kernel_rfl) (fun _ _ _ h => h) (by rfl) ?_ (Grew.refl _).drew ?_
    rotate_left
    · (intro W hW; obtain ⟨x0, m0, m1, m2, m3, m4, m5, m6, m7, m8⟩ := blok9 (HX0.out.grew hW); rw [HL.out] at m8; rw [HOp.out] at m0; obtain ⟨y0, n0, n1, n2, n3, n4, n5, n6, n7, n8⟩ := H9.out.grew (HG0.out.trans hW); obtain ⟨z0, p0, p1, p2, p3, p4, p5, p6, p7, p8⟩ := H9'.out.grew (HG0.out.trans hW); go_simp; with_reducible rfl)
    refine held_take 5 (v := ?_) rfl (by kernel_rfl) (by kernel_rfl) (by kernel_rfl) (fun _ _ _ h => h) (by rfl) ?_ (Grew.refl _).drew ?_
    rotate_left
    · (intro W hW; obtain ⟨x0, m0, m1, m2, m3, m4, m5, m6, m7, m8⟩ := blok9 (HX0.out.grew hW); rw [HL.out] at m8; rw [HOp.out] at m0; obtain ⟨y0, n0, n1, n2, n3, n4, n5, n6, n7, n8⟩ := H9.out.grew (HG0.out.trans hW); obtain ⟨z0, p0, p1, p2, p3, p4, p5, p6, p7, p8⟩ := H9'.out.grew (HG0.out.trans hW); go_simp; with_reducible rfl)
    refine held_take 6 (v := ?_) rfl (by kernel_rfl) (by kernel_rfl) (by kernel_rfl) (fun _ _ _ h => h) (by rfl) ?_ (Grew.refl _).drew ?_
    rotate_left
    · (intro W hW; obtain ⟨x0, m0, m1, m2, m3, m4, m5, m6, m7, m8⟩ := blok9 (HX0.out.grew hW); rw [HL.out] at m8; rw [HOp.out] at m0; obtain ⟨y0, n0, n1, n2, n3, n4, n5, n6, n7, n8⟩ := H9.out.grew (HG0.out.trans hW); obtain ⟨z0, p0, p1, p2, p3, p4, p5, p6, p7, p8⟩ := H9'.out.grew (HG0.out.trans hW); go_simp; with_reducible rfl)
    refine held_take 7 (v := ?_) rfl (by kernel_rfl) (by kernel_rfl) (by kernel_rfl) (fun _ _ _ h => h) (by rfl) ?_ (Grew.refl _).drew ?_
    rotate_left
    · (intro W hW; obtain ⟨x0, m0, m1, m2, m3, m4, m5, m6, m7, m8⟩ := blok9 (HX0.out.grew hW); rw [HL.out] at m8; rw [HOp.out] at m0; obtain ⟨y0, n0, n1, n2, n3, n4, n5, n6, n7, n8⟩ := H9.out.grew (HG0.out.trans hW); obtain ⟨z0, p0, p1, p2, p3, p4, p5, p6, p7, p8⟩ := H9'.out.grew (HG0.out.trans hW); go_simp; with_reducible rfl)
    refine held_norm (a' := ?_) ?_ ?_
    rotate_left
    · (go_simp; with_reducible rfl)
    refine held_pair 8 9 (by kernel_rfl) rfl rfl (by rfl) (by rfl) (fun K hK => ?_) (fun K hK => ?_)
    · go_simp
      go_wp2_with fail
      refine hK.out _ _ (by repeat (first | exact Grew.refl _ | refine Grew.alloc ?_ _ | refine Grew.drew ?_ | refine Grew.setCell ?_ (by simp) _)) ?_
      clear hK K
      refine held_call 9 (by kernel_rfl) rfl (by rfl) (fun K hK => ?_)
      go_simp
      go_wp2_with fail
      refine hK.out _ _ (by repeat (first | exact Grew.refl _ | refine Grew.alloc ?_ _ | refine Grew.drew ?_ | refine Grew.setCell ?_ (by simp) _)) ?_
      clear hK K
      refine held_call 10 (by kernel_rfl) rfl (by rfl) (fun K hK => ?_)
      go_simp
      go_wp2_with fail
      refine hK.out _ _ (by repeat (first | exact Grew.refl _ | refine Grew.alloc ?_ _ | refine Grew.drew ?_ | refine Grew.setCell ?_ (by simp) _)) ?_
      clear hK K
      refine held_call 11 (by kernel_rfl) rfl (by rfl) (fun K hK => ?_)
      go_simp
      go_wp2_with fail
      refine hK.out _ _ (by repeat (first | exact Grew.refl _ | refine Grew.alloc ?_ _ | refine Grew.drew ?_ | refine Grew.setCell ?_ (by simp) _)) ?_
      clear hK K
      refine held_done (by kernel_rfl) ?_
      go_wp2_with fail
      go_meet
      exact ⟨_, _, rfl, rfl, (Blok.new _ _ _ _ rfl).alloc _, Blok.new _ _ _ _ (by simp), (by repeat (first | exact Grew.refl _ | refine Grew.alloc ?_ _ | refine Grew.drew ?_ | refine Grew.setCell ?_ (by simp) _))⟩
    · go_simp
      go_wp2_with fail
      refine hK.out _ _ (by repeat (first | exact Grew.refl _ | refine Grew.alloc ?_ _ | refine Grew.drew ?_ | refine Grew.setCell ?_ (by simp) _)) ?_
      clear hK K
      refine held_call 8 (by kernel_rfl) rfl (by rfl) (fun K hK => ?_)
      go_simp
      go_wp2_with fail
      refine hK.out _ _ (by repeat (first | exact Grew.refl _ | refine Grew.alloc ?_ _ | refine Grew.drew ?_ | refine Grew.setCell ?_ (by simp) _)) ?_
      clear hK K
      refine held_call 10 (by kernel_rfl) rfl (by rfl) (fun K hK => ?_)
      go_simp
      go_wp2_with fail
      refine hK.out _ _ (by repeat (first | exact Grew.refl _ | refine Grew.alloc ?_ _ | refine Grew.drew ?_ | refine Grew.setCell ?_ (by simp) _)) ?_
      clear hK K
      refine held_call 11 (by kernel_rfl) rfl (by rfl) (fun K hK => ?_)
      go_simp
      go_wp2_with fail
      refine hK.out _ _ (by repeat (first | exact Grew.refl _ | refine Grew.alloc ?_ _ | refine Grew.drew ?_ | refine Grew.setCell ?_ (by simp) _)) ?_
      clear hK K
      refine held_done (by kernel_rfl) ?_
      go_wp2_with fail
      go_meet
      exact ⟨_, _, rfl, rfl, Blok.new _ _ _ _ (by simp), (Blok.new _ _ _ _ rfl).alloc _, (by repeat (first | exact Grew.refl _ | refine Grew.alloc ?_ _ | refine Grew.drew ?_ | refine Grew.setCell ?_ (by simp) _))⟩
  case rest =>
    obtain ⟨g7, g8, rfl, rfl, hb7, hb8, hg⟩ := hcut
    clear x0 m0 m1 m2 m3 m4 m5 m6 m7 m8 y0 n0 n1 n2 n3 n4 n5 n6 n7 n8 z0 p0 p1 p2 p3 p4 p5 p6 p7 p8 H9 H9'
    have HGc := Lib.hid hg
    have HB7 := Lib.hid hb7
    have HB8 := Lib.hid hb8
    obtain ⟨x0, m0, m1, m2, m3, m4, m5, m6, m7, m8⟩ := blok9 (HX0.out.grew HGc.out); rw [HL.out] at m8; rw [HOp.out] at m0
    obtain ⟨y0, n0, n1, n2, n3, n4, n5, n6, n7, n8⟩ := blok9 HB7.out
    obtain ⟨z0, p0, p1, p2, p3, p4, p5, p6, p7, p8⟩ := blok9 HB8.out
    clear hb7 hb8 hg
    go_wp2_with (first | (go_at_call 83; (with_reducible refine (HA.out _).grows.mono ?_); rintro en wn ⟨rfl, hgn⟩; have HGc := Lib.hid (HGc.out.trans hgn); obtain ⟨x0, m0, m1, m2, m3, m4, m5, m6, m7, m8⟩ := blok9 (HX0.out.grew HGc.out); rw [HL.out] at m8; rw [HOp.out] at m0; obtain ⟨y0, n0, n1, n2, n3, n4, n5, n6, n7, n8⟩ := blok9 (HB7.out.grew hgn); obtain ⟨z0, p0, p1, p2, p3, p4, p5, p6, p7, p8⟩ := blok9 (HB8.out.grew hgn); have HB7 := Lib.hid (HB7.out.grew hgn); have HB8 := Lib.hid (HB8.out.grew hgn); clear hgn))
    go_ret
    exact ⟨rfl, HG0.out.trans HGc.out⟩
set_option maxHeartbeats 4000000 in
set_option maxRecDepth 100000 in
theorem rsc_h4 (l : List Sst) (x : Ex) (kx : Nat) (A : Option Addr) (k : Nat) (w : World) (a a' : Ex) (b o : Nat) (B B' : Option Addr) (ka ka' : Nat) (h9 : At9 w b o a B ka) (h9' : At9 w b (o + 9) a' B' ka') (hlen : x.l.length = 2) (op : Int) (hop : x.op = op) (ho1 : 1 ≤ op) (ho6 : op ≤ 6) (a15 : ¬ a.op = 15) (b15 : ¬ a'.op = 15) :
    Gives Tryz.prog 41 #[exV x (some ⟨b, o, none⟩) kx, .slice A l.length k] w (.float .f64 (halfB)) := by
  obtain ⟨W0, hW0⟩ : ∃ W0, W0 = w.alloc (.cells (exC x (some ⟨b, o, none⟩) kx).toArray 27) := ⟨_, rfl⟩
  have HG0 : Hid (Grew w W0) := Lib.hid (by rw [hW0]; exact (Grew.refl w).alloc _)
  have HX0 : Hid (Blok W0 w.heap.size 27 (exC x (some ⟨b, o, none⟩) kx).toArray) := Lib.hid (by rw [hW0]; exact Blok.new _ _ _ _ rfl)
  obtain ⟨x0, m0, m1, m2, m3, m4, m5, m6, m7, m8⟩ := blok9 HX0.out
  have H9 := Lib.hid h9
  obtain ⟨y0, n0, n1, n2, n3, n4, n5, n6, n7, n8⟩ := h9.grew HG0.out
  have H9' := Lib.hid h9'
  obtain ⟨z0, p0, p1, p2, p3, p4, p5, p6, p7, p8⟩ := h9'.grew HG0.out
  have HOp := Lib.hid hop
  rw [hop] at m0
  have e_a15 : (a.op == 15) = false := by simp [a15]
  have e_b15 : (a'.op == 15) = false := by simp [b15]
  have f0 : (op == 10) = false := by rw [beq_eq_false_iff_ne]; omega
  have f1 : (op == 11) = false := by rw [beq_eq_false_iff_ne]; omega
  have f2 : decide (op < 1) = false := decide_eq_false (by omega)
  have f3 : decide (6 < op) = false := decide_eq_false (by omega)
  clear ho1 ho6
  clear h9 h9' a15 b15
  unfold halfB
  unfold exV at *
  unfold exC at hW0
  rw [hlen] at hW0 m8 ⊢
  rw [hop] at hW0 ⊢
  clear hop
  have HL := Lib.hid hlen
  clear hlen
  unfold Gives
  go_enter Tryz.func41, Tryz.ntmps41
  go_upto_region 1 with fail
  rw [← hW0]
  clear hW0
  go_upto_region 15 with fail
  go_cut [7, 8] (fun u v wx => ∃ g7 g8, u = .pointer (some ⟨g7, 0, none⟩) ∧ v = .pointer (some ⟨g8, 0, none⟩) ∧ Blok wx g7 27 (exC a B ka).toArray ∧ Blok wx g8 27 (exC a' B' ka').toArray ∧ Grew W0 wx)
  case first =>
    clear x0 m0 m1 m2 m3 m4 m5 m6 m7 m8 y0 n0 n1 n2 n3 n4 n5 n6 n7 n8 z0 p0 p1 p2 p3 p4 p5 p6 p7 p8
    refine wp_region_S (fun W => Grew W0 W) (by kernel_rfl) ?_
    refine held_take 0 (v := ?_) rfl (by kernel_rfl) (by kernel_rfl) (by kernel_rfl) (fun _ _ _ h => h) (by rfl) ?_ (Grew.refl _).drew ?_
    rotate_left
    · (intro W hW; obtain ⟨x0, m0, m1, m2, m3, m4, m5, m6, m7, m8⟩ := blok9 (HX0.out.grew hW); rw [HL.out] at m8; rw [HOp.out] at m0; obtain ⟨y0, n0, n1, n2, n3, n4, n5, n6, n7, n8⟩ := H9.out.grew (HG0.out.trans hW); obtain ⟨z0, p0, p1, p2, p3, p4, p5, p6, p7, p8⟩ := H9'.out.grew (HG0.out.trans hW); go_simp; with_reducible rfl)
    refine held_take 1 (v := ?_) rfl (by kernel_rfl) (by kernel_rfl) (by kernel_rfl) (fun _ _ _ h => h) (by rfl) ?_ (Grew.refl _).drew ?_
    rotate_left
    · (intro W hW; obtain ⟨x0, m0, m1, m2, m3, m4, m5, m6, m7, m8⟩ := blok9 (HX0.out.grew hW); rw [HL.out] at m8; rw [HOp.out] at m0; obtain ⟨y0, n0, n1, n2, n3, n4, n5, n6, n7, n8⟩ := H9.out.grew (HG0.out.trans hW); obtain ⟨z0, p0, p1, p2, p3, p4, p5, p6, p7, p8⟩ := H9'.out.grew (HG0.out.trans hW); go_simp; with_reducible rfl)
    refine held_take 2 (v := ?_) rfl (by kernel_rfl) (by kernel_rfl) (by kernel_rfl) (fun _ _ _ h => h) (by rfl) ?_ (Grew.refl _).drew ?_
    rotate_left
    · (intro W hW; obtain ⟨x0, m0, m1, m2, m3, m4, m5, m6, m7, m8⟩ := blok9 (HX0.out.grew hW); rw [HL.out] at m8; rw [HOp.out] at m0; obtain ⟨y0, n0, n1, n2, n3, n4, n5, n6, n7, n8⟩ := H9.out.grew (HG0.out.trans hW); obtain ⟨z0, p0, p1, p2, p3, p4, p5, p6, p7, p8⟩ := H9'.out.grew (HG0.out.trans hW); go_simp; with_reducible rfl)
    refine held_take 3 (v := ?_) rfl (by kernel_rfl) (by kernel_rfl) (by kernel_rfl) (fun _ _ _ h => h) (by rfl) ?_ (Grew.refl _).drew ?_
    rotate_left
    · (intro W hW; obtain ⟨x0, m0, m1, m2, m3, m4, m5, m6, m7, m8⟩ := blok9 (HX0.out.grew hW); rw [HL.out] at m8; rw [HOp.out] at m0; obtain ⟨y0, n0, n1, n2, n3, n4, n5, n6, n7, n8⟩ := H9.out.grew (HG0.out.trans hW); obtain ⟨z0, p0, p1, p2, p3, p4, p5, p6, p7, p8⟩ := H9'.out.grew (HG0.out.trans hW); go_simp; with_reducible rfl)
    refine held_take 4 (v := ?_) rfl (by kernel_rfl) (by kernel_rfl) (by kernel_rfl) (fun _ _ _ h => h) (by rfl) ?_ (Grew.refl _).drew ?_
    rotate_left
    · (intro W hW; obtain ⟨x0, m0, m1, m2, m3, m4, m5, m6, m7, m8⟩ := blok9 (HX0.out.grew hW); rw [HL.out] at m8; rw [HOp.out] at m0; obtain ⟨y0, n0, n1, n2, n3, n4, n5, n6, n7, n8⟩ := H9.out.grew (HG0.out.trans hW); obtain ⟨z0, p0, p1, p2, p3, p4, p5, p6, p7, p8⟩ := H9'.out.grew (HG0.out.trans hW); go_simp; with_reducible rfl)
    refine held_take 5 (v := ?_) rfl (by kernel_rfl) (by kernel_rfl) (by kernel_rfl) (fun _ _ _ h => h) (by rfl) ?_ (Grew.refl _).drew ?_
    rotate_left
    · (intro W hW; obtain ⟨x0, m0, m1, m2, m3, m4, m5, m6, m7, m8⟩ := blok9 (HX0.out.grew hW); rw [HL.out] at m8; rw [HOp.out] at m0; obtain ⟨y0, n0, n1, n2, n3, n4, n5, n6, n7, n8⟩ := H9.out.grew (HG0.out.trans hW); obtain ⟨z0, p0, p1, p2, p3, p4, p5, p6, p7, p8⟩ := H9'.out.grew (HG0.out.trans hW); go_simp; with_reducible rfl)
    refine held_take 6 (v := ?_) rfl (by kernel_rfl) (by kernel_rfl) (by kernel_rfl) (fun _ _ _ h => h) (by rfl) ?_ (Grew.refl _).drew ?_
    rotate_left
    · (intro W hW; obtain ⟨x0, m0, m1, m2, m3, m4, m5, m6, m7, m8⟩ := blok9 (HX0.out.grew hW); rw [HL.out] at m8; rw [HOp.out] at m0; obtain ⟨y0, n0, n1, n2, n3, n4, n5, n6, n7, n8⟩ := H9.out.grew (HG0.out.trans hW); obtain ⟨z0, p0, p1, p2, p3, p4, p5, p6, p7, p8⟩ := H9'.out.grew (HG0.out.trans hW); go_simp; with_reducible rfl)
    refine held_take 7 (v := ?_) rfl (by kernel_rfl) (by kernel_rfl) (by kernel_rfl) (fun _ _ _ h => h) (by rfl) ?_ (Grew.refl _).drew ?_
    rotate_left
    · (intro W hW; obtain ⟨x0, m0, m1, m2, m3, m4, m5, m6, m7, m8⟩ := blok9 (HX0.out.grew hW); rw [HL.out] at m8; rw [HOp.out] at m0; obtain ⟨y0, n0, n1, n2, n3, n4, n5, n6, n7, n8⟩ := H9.out.grew (HG0.out.trans hW); obtain ⟨z0, p0, p1, p2, p3, p4, p5, p6, p7, p8⟩ := H9'.out.grew (HG0.out.trans hW); go_simp; with_reducible rfl)
    refine held_norm (a' := ?_) ?_ ?_
    rotate_left
    · (go_simp; with_reducible rfl)
    refine held_pair 8 9 (by kernel_rfl) rfl rfl (by rfl) (by rfl) (fun K hK => ?_) (fun K hK => ?_)
    · go_simp
      go_wp2_with fail
      refine hK.out _ _ (by repeat (first | exact Grew.refl _ | refine Grew.alloc ?_ _ | refine Grew.drew ?_ | refine Grew.setCell ?_ (by simp) _)) ?_
      clear hK K
      refine held_call 9 (by kernel_rfl) rfl (by rfl) (fun K hK => ?_)
      go_simp
      go_wp2_with fail
      refine hK.out _ _ (by repeat (first | exact Grew.refl _ | refine Grew.alloc ?_ _ | refine Grew.drew ?_ | refine Grew.setCell ?_ (by simp) _)) ?_
      clear hK K
      refine held_call 10 (by kernel_rfl) rfl (by rfl) (fun K hK => ?_)
      go_simp
      go_wp2_with fail
      refine hK.out _ _ (by repeat (first | exact Grew.refl _ | refine Grew.alloc ?_ _ | refine Grew.drew ?_ | refine Grew.setCell ?_ (by simp) _)) ?_
      clear hK K
      refine held_call 11 (by kernel_rfl) rfl (by rfl) (fun K hK => ?_)
      go_simp
      go_wp2_with fail
      refine hK.out _ _ (by repeat (first | exact Grew.refl _ | refine Grew.alloc ?_ _ | refine Grew.drew ?_ | refine Grew.setCell ?_ (by simp) _)) ?_
      clear hK K
      refine held_done (by kernel_rfl) ?_
      go_wp2_with fail
      go_meet
      exact ⟨_, _, rfl, rfl, (Blok.new _ _ _ _ rfl).alloc _, Blok.new _ _ _ _ (by simp), (by repeat (first | exact Grew.refl _ | refine Grew.alloc ?_ _ | refine Grew.drew ?_ | refine Grew.setCell ?_ (by simp) _))⟩
    · go_simp
      go_wp2_with fail
      refine hK.out _ _ (by repeat (first | exact Grew.refl _ | refine Grew.alloc ?_ _ | refine Grew.drew ?_ | refine Grew.setCell ?_ (by simp) _)) ?_
      clear hK K
      refine held_call 8 (by kernel_rfl) rfl (by rfl) (fun K hK => ?_)
      go_simp
      go_wp2_with fail
      refine hK.out _ _ (by repeat (first | exact Grew.refl _ | refine Grew.alloc ?_ _ | refine Grew.drew ?_ | refine Grew.setCell ?_ (by simp) _)) ?_
      clear hK K
      refine held_call 10 (by kernel_rfl) rfl (by rfl) (fun K hK => ?_)
      go_simp
      go_wp2_with fail
      refine hK.out _ _ (by repeat (first | exact Grew.refl _ | refine Grew.alloc ?_ _ | refine Grew.drew ?_ | refine Grew.setCell ?_ (by simp) _)) ?_
      clear hK K
      refine held_call 11 (by kernel_rfl) rfl (by rfl) (fun K hK => ?_)
      go_simp
      go_wp2_with fail
      refine hK.out _ _ (by repeat (first | exact Grew.refl _ | refine Grew.alloc ?_ _ | refine Grew.drew ?_ | refine Grew.setCell ?_ (by simp) _)) ?_
      clear hK K
      refine held_done (by kernel_rfl) ?_
      go_wp2_with fail
      go_meet
      exact ⟨_, _, rfl, rfl, Blok.new _ _ _ _ (by simp), (Blok.new _ _ _ _ rfl).alloc _, (by repeat (first | exact Grew.refl _ | refine Grew.alloc ?_ _ | refine Grew.drew ?_ | refine Grew.setCell ?_ (by simp) _))⟩
  case rest =>
    obtain ⟨g7, g8, rfl, rfl, hb7, hb8, hg⟩ := hcut
    clear x0 m0 m1 m2 m3 m4 m5 m6 m7 m8 y0 n0 n1 n2 n3 n4 n5 n6 n7 n8 z0 p0 p1 p2 p3 p4 p5 p6 p7 p8 H9 H9'
    have HGc := Lib.hid hg
    have HB7 := Lib.hid hb7
    have HB8 := Lib.hid hb8
    obtain ⟨x0, m0, m1, m2, m3, m4, m5, m6, m7, m8⟩ := blok9 (HX0.out.grew HGc.out); rw [HL.out] at m8; rw [HOp.out] at m0
    obtain ⟨y0, n0, n1, n2, n3, n4, n5, n6, n7, n8⟩ := blok9 HB7.out
    obtain ⟨z0, p0, p1, p2, p3, p4, p5, p6, p7, p8⟩ := blok9 HB8.out
    clear hb7 hb8 hg
    go_wp2
    go_ret
    exact ⟨rfl, HG0.out.trans HGc.out⟩
end Go.Proofs.YtbglmcebkpkccaaGreatDoor

/- Layer 29: the share of rows for which an expression may be true, by the document. Condition: no more than a million columns and marks, what is said, and an expression, in memory that is there. -/
namespace Go.Proofs.YtbglmcebkpkccaaGreatDoor
open Go.RowKit

theorem rshare_ex (l : List Sst) (hm : LitSd l) (A : Option Addr) (k : Nat) (u : World) (ra : SstsR (PRow u) A l) (n : Nat) : ∀ (x : Ex), SizeOf.sizeOf x < n → ∀ (Ax : Option Addr) (kx : Nat) (w : World), Grew u w → ExsR (PRow u) Ax x.l →
    Gives Tryz.prog 41 #[exV x Ax kx, .slice A l.length k] w (.float .f64 (shareK (heldAll l) x)) := by
  induction n with
  | zero => intro x hn; omega
  | succ n ih =>
    intro x hn Ax kx w hg rx
    have hra := ra.grew hg
    have hsub : ∀ i (h : i < x.l.length), ∃ b o B k', Ax = some ⟨b, o, none⟩ ∧ (∀ W, Grew w W → Gives Tryz.prog 41 #[exV x.l[i] B k', .slice A l.length k] W (.float .f64 (shareK (heldAll l) x.l[i]))) ∧ At9 w b (o + i * 9) x.l[i] B k' := fun i h => by
      obtain ⟨b, o, B, k', hA, hr, h9⟩ := exsR_nine rx h
      have := x.part_lt (List.getElem_mem h)
      exact ⟨b, o, B, k', hA, fun W hW => ih _ (by omega) B k' W (hg.trans hW) hr, h9.grew hg⟩
    by_cases h1 : x.l.length = 1
    · obtain ⟨a, hl⟩ := List.length_eq_one_iff.1 h1
      rw [shareK_one hl]
      obtain ⟨b, o, B, ka, hA, hsh, h9⟩ := hsub 0 (by omega)
      have ea : x.l[0]'(by omega) = a := by simp [hl]
      rw [ea] at hsh h9
      rw [Nat.zero_mul, Nat.add_zero] at h9
      by_cases h12 : x.op = 12
      · rw [show oneK (heldAll l) x.op a = notB (shareK (heldAll l) a) by unfold oneK; rw [if_pos h12]]
        exact rsh_not l x Ax kx A k w a b o B ka hA hsh h9 h1 h12
      by_cases c15 : a.op = 15
      · by_cases h13 : x.op = 13
        · rw [show oneK (heldAll l) x.op a = nullK (heldAll l) a by unfold oneK; rw [if_neg h12, if_pos c15, if_pos h13]]
          exact rsh_null13 l hm x Ax kx A k w hra a b o B ka hA hsh h9 h1 h13 c15
        · by_cases h14 : x.op = 14
          · rw [show oneK (heldAll l) x.op a = notB (nullK (heldAll l) a) by unfold oneK; rw [if_neg h12, if_pos c15, if_neg h13, if_pos h14]]
            exact rsh_null14 l hm x Ax kx A k w hra a b o B ka hA hsh h9 h1 h14 c15
          · rw [show oneK (heldAll l) x.op a = halfB by unfold oneK; rw [if_neg h12, if_pos c15, if_neg h13, if_neg h14]]
            exact rsh_one l x Ax kx A k w a b o B ka hA hsh h9 h1 h12 h13 h14
      · rw [show oneK (heldAll l) x.op a = halfB by unfold oneK; rw [if_neg h12, if_neg c15]]
        by_cases h13 : x.op = 13
        · exact rsh_oth13 l x Ax kx A k w a b o B ka hA hsh h9 h1 h13 c15
        · by_cases h14 : x.op = 14
          · exact rsh_oth14 l x Ax kx A k w a b o B ka hA hsh h9 h1 h14 c15
          · exact rsh_one l x Ax kx A k w a b o B ka hA hsh h9 h1 h12 h13 h14
    by_cases h2 : x.l.length = 2
    · obtain ⟨a, a', hl⟩ : ∃ a b, x.l = [a, b] := by
        match x.l, h2 with
        | [a, b], _ => exact ⟨a, b, rfl⟩
      rw [shareK_two hl]
      obtain ⟨b, o, B, ka, hA, hsh, h9⟩ := hsub 0 (by omega)
      obtain ⟨b', o', B', ka', hA', hsh', h9'⟩ := hsub 1 (by omega)
      have ea : x.l[0]'(by omega) = a := by simp [hl]
      have ea' : x.l[1]'(by omega) = a' := by simp [hl]
      rw [ea] at hsh h9
      rw [ea'] at hsh' h9'
      rw [hA] at hA'
      injection hA' with hA'
      injection hA' with hb ho _
      subst hb ho
      rw [Nat.zero_mul, Nat.add_zero] at h9
      rw [Nat.one_mul] at h9'
      by_cases h10 : x.op = 10
      · rw [show twoK (heldAll l) x.op a a' = andF [shareK (heldAll l) a, shareK (heldAll l) a'] 4607182418800017408 by unfold twoK; rw [if_pos h10]]
        exact rsh_and l x Ax kx A k w a b o B ka hA hsh h9 a' B' ka' hsh' h9' h2 h10
      by_cases h11 : x.op = 11
      · rw [show twoK (heldAll l) x.op a a' = orB (shareK (heldAll l) a) (shareK (heldAll l) a') by unfold twoK; rw [if_neg h10, if_pos h11]]
        exact rsh_or l x Ax kx A k w a b o B ka hA hsh h9 a' B' ka' hsh' h9' h2 h11
      by_cases h16 : 1 ≤ x.op ∧ x.op ≤ 6
      · rw [show twoK (heldAll l) x.op a a' = cmpK (heldAll l) x.op a a' by unfold twoK; rw [if_neg h10, if_neg h11, if_pos h16]]
        subst hA
        have hno : ∀ y : Ex, y.op = 15 → isNum y = false := fun y hy => by unfold isNum; rw [hy]; rfl
        by_cases a15 : a.op = 15
        · have na := hno a a15
          by_cases nb : isNum a' = true
          · rw [show cmpK (heldAll l) x.op a a' = numK (heldAll l) x.op a.t a.c a'.vi by unfold cmpK; simp [a15, nb]]
            exact rsc_num l hm x kx A k w hra a a' b o B B' ka ka' h9 h9' h2 x.op rfl h16.1 h16.2 a15 nb
          · replace nb : isNum a' = false := by simpa using nb
            by_cases b15 : a'.op = 15
            · by_cases o1 : x.op = 1
              · rw [show cmpK (heldAll l) x.op a a' = sameK (heldAll l) a.t a.c a'.t a'.c by unfold cmpK; simp [a15, nb, na, b15, o1]]
                exact rsc_same l hm x kx A k w hra a a' b o B B' ka ka' h9 h9' h2 x.op rfl a15 nb b15 na o1
              · rw [show cmpK (heldAll l) x.op a a' = halfB by unfold cmpK; simp [a15, nb, na, o1]]
                exact rsc_h1 l x kx A k w a a' b o B B' ka ka' h9 h9' h2 x.op rfl h16.1 h16.2 a15 nb b15 na o1
            · rw [show cmpK (heldAll l) x.op a a' = halfB by unfold cmpK; simp [a15, nb, na, b15]]
              exact rsc_h2 l x kx A k w a a' b o B B' ka ka' h9 h9' h2 x.op rfl h16.1 h16.2 a15 nb b15
        · by_cases b15 : a'.op = 15
          · by_cases na : isNum a = true
            · rw [show cmpK (heldAll l) x.op a a' = numK (heldAll l) (turnK x.op) a'.t a'.c a.vi by unfold cmpK; simp [a15, na, b15]]
              exact rsc_turn l hm x kx A k w hra a a' b o B B' ka ka' h9 h9' h2 x.op rfl h16.1 h16.2 a15 b15 na
            · replace na : isNum a = false := by simpa using na
              rw [show cmpK (heldAll l) x.op a a' = halfB by unfold cmpK; simp [a15, na, b15]]
              exact rsc_h3 l x kx A k w a a' b o B B' ka ka' h9 h9' h2 x.op rfl h16.1 h16.2 a15 b15 na
          · rw [show cmpK (heldAll l) x.op a a' = halfB by unfold cmpK; simp [a15, b15]]
            exact rsc_h4 l x kx A k w a a' b o B B' ka ka' h9 h9' h2 x.op rfl h16.1 h16.2 a15 b15
      · rw [show twoK (heldAll l) x.op a a' = halfB by unfold twoK; rw [if_neg h10, if_neg h11, if_neg h16]]
        by_cases hlow : x.op < 1
        · exact rsh_low l x Ax kx A k w a b o B ka hA hsh h9 a' B' ka' hsh' h9' h2 h10 h11 hlow
        · exact rsh_high l x Ax kx A k w a b o B ka hA hsh h9 a' B' ka' hsh' h9' h2 h10 h11 (by omega)
    · rw [shareK_else h1 h2]
      exact rsh_none l x Ax kx A k w h1 h2
end Go.Proofs.YtbglmcebkpkccaaGreatDoor

namespace Go.Proofs.YtbglmcebkpkccaaGreatDoor
open Go.RowKit
attribute [local go_sem] more_cell more_frozen more_more more_setCell more_of_drew more_of_drewN lt_more le_more past_cell past_cell2 past_frozen past_frozen2 past_setCell past_setCell2 mid_cell mid_frozen mid_setCell
attribute [local go_sem ↓] Go.wp_at_zero Go.wp_at_succ

/-- As much as can lie in memory. -/
def LrgSd (l : List Sst) : Prop := ∀ s ∈ l, s.cols.length ≤ 1000000000000000
def FewSd (l : List Sst) : Prop := ∀ s ∈ l, s.cols.length ≤ 30 ∧ ∀ c ∈ s.cols, c.m.length ≤ 60
section
variable {H : Type} {enc : TypeId × Value → H} {W : World}
theorem rdw_ssts : RdW enc Tryz.prog W 30 1 (fun (l : List Sst) cs => (∃ A c, cs = [.slice A l.length c] ∧ l.length ≤ c ∧ SstsR (PRow W) A l) ∧ LrgSd l) :=
  rdw_map (rdw_slice Tryz.underlying30 (by kernel_rfl) (by decide) (bytes := 32) (by kernel_rfl) rdw_sst) fun l cs ⟨A, c, css, h1, h2, _, h4, h5, h6⟩ => by
    have h7 : ListR (fun (s : Sst) cs => SstR (PRow W) s cs ∧ s.cols.length ≤ 1000000000000000) 2 l css := h5.map fun s cs ⟨A, c, e, hb, hr⟩ => ⟨⟨A, c, e, hr⟩, hb⟩
    exact ⟨⟨A, c, h1, h2, css, h7.each.1, h6⟩, h7.each.2⟩
end
def MuAt (w : World) (l : List Sst) (i : Value) (wr : World) : Prop := ∃ j : Nat, j ≤ l.length ∧ j ≤ 20 ∧ i = .int .i64 j ∧ FewSd (l.take j) ∧ Grew w wr
theorem rmuch29s_any (l : List Sst) (hl : LrgSd l) (A : Option Addr) (k : Nat) (w : World) (ra : SstsR (PRow w) A l) :
    Calls Tryz.prog 8 #[.slice A l.length k] w (MuchR w (l.length ≤ 16 ∧ FewSd l)) := by
  have RA := Lib.hid ra
  have HL := Lib.hid hl
  clear ra hl
  go_enter Tryz.func8, Tryz.ntmps8
  go_wp2
  go_loopw [3] (fun i wr => MuAt w l i wr) (fun i _ => 20 - (intOf i).toNat)
  case atStart => exact ⟨0, Nat.zero_le _, Nat.zero_le _, rfl, by simp [FewSd], Grew.refl _⟩
  case round =>
    obtain ⟨j, hj, hj2, rfl, hf, hg⟩ := hrel
    have HG := Lib.hid hg
    have HF := Lib.hid hf
    clear hg hf
    by_cases h : j < l.length
    · by_cases h2 : j < 20
      · obtain ⟨b, o, B, c, rfl, hb, d0, d1, hr⟩ := sstsR_at (RA.out.grew HG.out) h
        have hlr := HL.out _ (List.getElem_mem h)
        have HM : Hid (∀ W, Grew wr W → Calls Tryz.prog 30 #[.agg #[.int .i64 l[j].rows, .slice B l[j].cols.length c]] W fun e w' => ∃ t : Bool, e = .returned (.bool t) ∧ Grew W w' ∧ (t = false → l[j].cols.length ≤ 30 ∧ ∀ c ∈ l[j].cols, c.m.length ≤ 60)) := Lib.hid fun W hW => rmuchS_any l[j].rows l[j].cols B c hlr W (hr.grew hW)
        have HT : Hid ((l[j].cols.length ≤ 30 ∧ ∀ c ∈ l[j].cols, c.m.length ≤ 60) → FewSd (l.take (j + 1))) := Lib.hid fun hx s hs => by
          rw [List.take_succ_eq_append_getElem h] at hs
          rcases List.mem_append.1 hs with hs | hs
          · exact HF.out s hs
          · rw [List.mem_singleton.1 hs]; exact hx
        clear hr hlr
        generalize l[j] = s at *
        go_wp2_with fail
        refine (HM.out _ (Grew.refl _)).mono ?_
        rintro e w2 ⟨t, rfl, hg2, ht⟩
        have HG2 := Lib.hid (HG.out.trans hg2)
        have HX := Lib.hid ht
        clear hg2 ht d0 d1 hb
        cases t
        · go_wp2
          exact ⟨⟨j + 1, by omega, by omega, by go_num, HT.out (HX.out (by trivial)), HG2.out⟩, by simp only [intOf]; omega⟩
        · go_wp2
          go_ret
          exact muchR_true _ HG2.out
      · obtain rfl : j = 20 := by omega
        have h16 : decide ((16 : Int) < (l.length : Int)) = true := decide_eq_true (by omega)
        go_wp2
        go_ret
        exact muchR_true _ HG.out
    · obtain rfl : j = l.length := by omega
      rw [List.take_length] at HF
      by_cases h16 : l.length ≤ 16
      · have h16' : decide ((16 : Int) < (l.length : Int)) = false := decide_eq_false (by omega)
        go_wp2
        go_ret
        exact muchR_false HG.out ⟨h16, HF.out⟩
      · have h16' : decide ((16 : Int) < (l.length : Int)) = true := decide_eq_true (by omega)
        go_wp2
        go_ret
        exact muchR_true _ HG.out
theorem turn_of {w : World} (h : Lib.TabIs Tryz.prog w "trommel/cost.turned" .i64 [0, 1, 2, 5, 6, 3, 4]) : TurnC w := by
  have hg : Tryz.prog.globalNamed "trommel/cost.turned" = some 3 := by kernel_rfl
  exact ⟨cell_lt (h.cell hg 1 (by decide)), h.cell hg 1 (by decide), h.cell hg 2 (by decide), h.cell hg 3 (by decide), h.cell hg 4 (by decide), h.cell hg 5 (by decide), h.cell hg 6 (by decide)⟩
end Go.Proofs.YtbglmcebkpkccaaGreatDoor
