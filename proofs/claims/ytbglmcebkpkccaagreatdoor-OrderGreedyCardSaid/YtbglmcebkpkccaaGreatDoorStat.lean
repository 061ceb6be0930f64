/- Layer 27: what is said of a table, and what is left of it. No condition. -/
import Derived.Test.YtbglmcebkpkccaaGreatDoorHistMath
import Derived.Test.YtbglmcebkpkccaaGreatDoorMix
import Derived.Test.YtbglmcebkpkccaaGreatDoorSat
import Derived.Test.YtbglmcebkpkccaaGreatDoorReadW
import Derived.Test.YtbglmcebkpkccaaGreatDoorApp2
namespace Go.Proofs.YtbglmcebkpkccaaGreatDoor
open Go.RowKit

/-- What is said of a column: how many unlike ones, how many that are none, its marks. -/
structure Cst where
  u : Int
  n : Int
  m : List Int
deriving DecidableEq
instance cst_some : Inhabited Cst := ⟨⟨0, 0, []⟩⟩
structure Sst where
  rows : Int
  cols : List Cst
deriving DecidableEq
instance sst_some : Inhabited Sst := ⟨⟨0, []⟩⟩
theorem Cst.ext' {a b : Cst} (h1 : a.u = b.u) (h2 : a.n = b.n) (h3 : a.m = b.m) : a = b := by
  cases a; cases b; simp_all
theorem Sst.ext' {a b : Sst} (h1 : a.rows = b.rows) (h2 : a.cols = b.cols) : a = b := by
  cases a; cases b; simp_all

def nearI (n high : Int) : Int := if n < 0 then 0 else if high < n then high else n
theorem nearI_in {n high : Int} (h : 0 ≤ high) : 0 ≤ nearI n high ∧ nearI n high ≤ high := by
  unfold nearI
  split
  · omega
  · split <;> omega
theorem nearI_self {n high : Int} (h1 : 0 ≤ n) (h2 : n ≤ high) : nearI n high = n := by
  unfold nearI
  rw [if_neg (by omega), if_neg (by omega)]
theorem nearI_twice {n high : Int} (h : 0 ≤ high) : nearI (nearI n high) high = nearI n high := nearI_self (nearI_in h).1 (nearI_in h).2
def heldC (rows : Int) (x : Cst) : Cst := ⟨nearI x.u (rows - nearI x.n rows), nearI x.n rows, sortI (x.m.take 9)⟩
def colAt (s : Sst) (c : Nat) : Cst := s.cols.getD c default
def heldN (cols : Int) : Nat := (nearI cols 16).toNat
theorem heldN_le (cols : Int) : heldN cols ≤ 16 := by
  unfold heldN
  have := nearI_in (n := cols) (high := 16) (by decide)
  omega
def heldP (s : Sst) (k : Nat) : List Cst := (List.range k).map fun c => heldC (cutI s.rows) (colAt s c)
def heldS (s : Sst) (cols : Int) : Sst := ⟨cutI s.rows, heldP s (heldN cols)⟩
theorem heldP_len (s : Sst) (k : Nat) : (heldP s k).length = k := by simp [heldP]
theorem heldP_snoc (s : Sst) (k : Nat) : heldP s (k + 1) = heldP s k ++ [heldC (cutI s.rows) (colAt s k)] := by simp [heldP, List.range_succ]
theorem sortI_twice (l : List Int) : sortI (sortI l) = sortI l := (sortI_uniq (List.Perm.refl _) (sortI_pw l)).symm
theorem heldC_twice {rows : Int} (h : 0 ≤ rows) (x : Cst) : heldC rows (heldC rows x) = heldC rows x := by
  have h1 := nearI_in (n := x.n) h
  have h2 : nearI (nearI x.n rows) rows = nearI x.n rows := nearI_twice h
  refine Cst.ext' ?_ h2 ?_
  · show nearI (nearI x.u (rows - nearI x.n rows)) (rows - nearI (nearI x.n rows) rows) = _
    rw [h2]
    exact nearI_twice (by omega)
  · show sortI ((sortI (x.m.take 9)).take 9) = sortI (x.m.take 9)
    rw [List.take_of_length_le (by rw [sortI_len, List.length_take]; omega), sortI_twice]
theorem cutI_twice (n : Int) : cutI (cutI n) = cutI n := cutI_self (cutI_s n)
theorem heldS_twice (s : Sst) (cols : Int) : heldS (heldS s cols) cols = heldS s cols := by
  refine Sst.ext' (cutI_twice _) ?_
  show heldP (heldS s cols) (heldN cols) = heldP s (heldN cols)
  unfold heldP
  refine List.map_congr_left fun c hc => ?_
  have hc' : c < heldN cols := by simpa using hc
  have e1 : cutI (heldS s cols).rows = cutI s.rows := cutI_twice _
  have e2 : colAt (heldS s cols) c = heldC (cutI s.rows) (colAt s c) := by
    show (heldP s (heldN cols)).getD c default = _
    rw [List.getD_eq_getElem?_getD, List.getElem?_eq_getElem (by rw [heldP_len]; exact hc')]
    simp [heldP]
  rw [e1, e2]
  exact heldC_twice (cutI_s s.rows).1 _

def CstR (R : Rw) (c : Cst) (cs : List Value) : Prop := ∃ A k, cs = [.int .i64 c.u, .int .i64 c.n, .slice A c.m.length k] ∧ c.m.length ≤ k ∧ R 3 A (iV c.m)
def CstsR (R : Rw) (A : Option Addr) (l : List Cst) : Prop := ∃ css, ListR (CstR R) 3 l css ∧ R 109 A css.flatten
theorem CstR.imp {R R' : Rw} {c : Cst} {cs : List Value} (h : CstR R c cs) (H : ∀ A xs, R 3 A xs → R' 3 A xs) : CstR R' c cs := by
  obtain ⟨A, k, h1, h0, h2⟩ := h
  exact ⟨A, k, h1, h0, H _ _ h2⟩
theorem CstsR.imp {R R' : Rw} {A : Option Addr} {l : List Cst} (h : CstsR R A l) (H : ∀ e A xs, R e A xs → R' e A xs) : CstsR R' A l := by
  obtain ⟨css, h1, h2⟩ := h
  exact ⟨css, h1.map (fun x cs hr => hr.imp (H _)), H _ _ _ h2⟩
theorem CstsR.grew {w w' : World} {A : Option Addr} {l : List Cst} (h : CstsR (PRow w) A l) (g : Grew w w') : CstsR (PRow w') A l := h.imp fun _ _ _ h => Row.grew h g
theorem infoCs : (Tryz.prog.info? 109).map (fun i => (i.zero, i.size, i.bytes)) = some (some (.agg #[.int .i64 0, .int .i64 0, .slice none 0 0]), 3, 40) := by kernel_rfl
theorem cstR_one {R : Rw} {c : Cst} {cs : List Value} (h : CstR R c cs) : ∀ u ∈ cs, u.oneCell' = true := by
  obtain ⟨A, k, rfl, _⟩ := h
  intro u hu
  simp at hu
  rcases hu with rfl | rfl | rfl <;> rfl
theorem cstsR_at {w : World} {A : Option Addr} {l : List Cst} (h : CstsR (PRow w) A l) {i : Nat} (hi : i < l.length) :
    ∃ b o B k, A = some ⟨b, o, none⟩ ∧ b < w.heap.size ∧ w.cell? ⟨b, o + i * 3, none⟩ = some (.int .i64 l[i].u) ∧ w.cell? ⟨b, o + i * 3 + 1, none⟩ = some (.int .i64 l[i].n) ∧ w.cell? ⟨b, o + i * 3 + 2, none⟩ = some (.slice B l[i].m.length k) ∧ l[i].m.length ≤ k ∧ Row w B (iV l[i].m) := by
  obtain ⟨css, h1, h2⟩ := h
  obtain ⟨b, o, cs, hA, hb, hr, _, hc⟩ := h1.at_ h2 (by decide) hi
  obtain ⟨B, k, rfl, hk, hx⟩ := hr
  exact ⟨b, o, B, k, hA, hb, hc 0 _ rfl, hc 1 _ rfl, hc 2 _ rfl, hk, hx⟩
section
variable {H : Type} {enc : TypeId × Value → H} {W : World}
theorem rdw_iS : RdW enc Tryz.prog W 3 1 (fun (x : Int) cs => cs = [.int .i64 x] ∧ (Lit.int .i64 x).wf = true) := rdw_of (rd_int Tryz.underlying3 (by kernel_rfl))
theorem rdw_isS : RdW enc Tryz.prog W 31 1 (fun (l : List Int) cs => ∃ A c, cs = [.slice A l.length c] ∧ l.length ≤ c ∧ Row W A (iV l)) :=
  rdw_map (rdw_slice Tryz.underlying31 (by kernel_rfl) (by decide) (bytes := 8) (by kernel_rfl) rdw_iS) fun l cs ⟨A, c, css, h1, h2, _, _, h3, h4⟩ => ⟨A, c, h1, h2, (nums_row h3 h4).1⟩
theorem rdw_cst : RdW enc Tryz.prog W 109 3 (fun (c : Cst) cs => CstR (PRow W) c cs) :=
  ⟨by kernel_rfl, fun n cs y hl h ho => by
    obtain ⟨u, h0⟩ := rdw_part (i := 0) (o := 0) Tryz.underlying109 rfl rfl rdw_iS (by rw [hl]; decide) h ho
    obtain ⟨k, h1⟩ := rdw_part (i := 1) (o := 1) Tryz.underlying109 rfl rfl rdw_iS (by rw [hl]; decide) h ho
    obtain ⟨m, A, c, h2, h3, h4⟩ := rdw_part (i := 2) (o := 2) Tryz.underlying109 rfl rfl rdw_isS (by rw [hl]; decide) h ho
    match cs, hl with
    | [a, b, d], _ =>
      simp at h0 h1 h2
      obtain ⟨rfl, _⟩ := h0
      obtain ⟨rfl, _⟩ := h1
      subst h2
      exact ⟨⟨u, k, m⟩, ⟨A, c, rfl, h3, h4⟩⟩⟩
theorem rdw_csts : RdW enc Tryz.prog W 56 1 (fun (l : List Cst) cs => ∃ A c, cs = [.slice A l.length c] ∧ l.length ≤ 1000000000000000 ∧ CstsR (PRow W) A l) :=
  rdw_map (rdw_slice Tryz.underlying56 (by kernel_rfl) (by decide) (bytes := 40) (by kernel_rfl) rdw_cst) fun l cs ⟨A, c, css, h1, h2, _, h5, h3, h4⟩ => ⟨A, c, h1, by unfold reachBytes at h5; omega, ⟨css, h3, h4⟩⟩
theorem rdw_sst : RdW enc Tryz.prog W 58 2 (fun (s : Sst) cs => ∃ A c, cs = [.int .i64 s.rows, .slice A s.cols.length c] ∧ s.cols.length ≤ 1000000000000000 ∧ CstsR (PRow W) A s.cols) :=
  ⟨by kernel_rfl, fun n cs y hl h ho => by
    obtain ⟨u, h0⟩ := rdw_part (i := 0) (o := 0) Tryz.underlying58 rfl rfl rdw_iS (by rw [hl]; decide) h ho
    obtain ⟨l, A, c, h1, h2, h3⟩ := rdw_part (i := 1) (o := 1) Tryz.underlying58 rfl rfl rdw_csts (by rw [hl]; decide) h ho
    match cs, hl with
    | [a, b], _ =>
      simp at h0 h1
      obtain ⟨rfl, _⟩ := h0
      subst h1
      exact ⟨⟨u, l⟩, ⟨A, c, rfl, h2, h3⟩⟩⟩
end
end Go.Proofs.YtbglmcebkpkccaaGreatDoor
