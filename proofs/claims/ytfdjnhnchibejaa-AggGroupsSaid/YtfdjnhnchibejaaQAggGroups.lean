/- The statement AggGroupsSaid: for every input the law returns true, and each argument reads as it did. No condition beyond the row's own. -/
import Derived.Test.YtfdjnhnchibejaaQUfs
import Derived.Test.YtfdjnhnchibejaaTab
import Derived.Test.YtfdjnhnchibejaaEvalMath
import Derived.Test.YtfdjnhnchibejaaRowEq
import Derived.Test.YtfdjnhnchibejaaQuery
import Derived.Test.YtfdjnhnchibejaaTree11
import Derived.Deep.DeepCutAuto
import Derived.Deep.RegionWith
import Derived.Test.YtfdjnhnchibejaaEval
import Derived.Maps.OwnOps
import Derived.Test.YtfdjnhnchibejaaApp2
import Derived.Maps.AppendAt
import Derived.Test.YtfdjnhnchibejaaTree8
import Derived.Test.YtfdjnhnchibejaaVal
import Derived.Test.YtfdjnhnchibejaaTabKit
import Derived.Test.YtfdjnhnchibejaaRowMuch
import Derived.Test.YtfdjnhnchibejaaQAggs
import Derived.Deep.QuietTactic
import Derived.Test.YtfdjnhnchibejaaExW
import Derived.Test.YtfdjnhnchibejaaFrame2

/- Layer 14: the key of a group's map: a number and a value. Condition: values whose texts are not longer than memory. -/
namespace Go.Proofs.Ytfdjnhnchibejaa
open Go.RowKit

def keyS (g : Nat) (v : Vl) : Value := .agg #[.int .i64 g, .int .i64 v.k, .int .i64 v.i, .string v.s]
theorem keyS_inj {g g' : Nat} {v v' : Vl} (h : keyS g v = keyS g' v') : g = g' ∧ v = v' := by
  unfold keyS at h
  injection h with h
  injection h with h
  injection h with h1 h
  injection h with h2 h
  injection h with h3 h
  injection h with h4 _
  injection h1 with _ h1
  injection h2 with _ h2
  injection h3 with _ h3
  injection h4 with h4
  obtain ⟨k, i, s⟩ := v
  obtain ⟨k', i', s'⟩ := v'
  simp only at h2 h3 h4
  subst h2 h3 h4
  exact ⟨by omega, rfl⟩
theorem split_law : WideMaps.KeyLaw Try.prog 188 := deep_law (m := 4) (by decide) (by kernel_rfl) (by kernel_rfl) (by kernel_rfl)
theorem cells_i : Try.prog.cellsOf 3 = 1 := by kernel_rfl
theorem cells_s : Try.prog.cellsOf 9 = 1 := by kernel_rfl
theorem cells_v : Try.prog.cellsOf 27 = 3 := by kernel_rfl
theorem cells_p : Try.prog.cellsOf 188 = 4 := by kernel_rfl
theorem kl_int (d : Nat) (a : Int) (h : (Lit.int .i64 a).wf = true) : Try.prog.keyLits (d + 1) 3 [.int .i64 a] = some [.int .i64 a] := by
  rw [Program.keyLits.eq_def]
  simp only [Try.underlying3, h, and_self, if_true]
theorem kl_str (d : Nat) (s : ByteArray) (h : s.size ≤ maxLen) : Try.prog.keyLits (d + 1) 9 [.string s] = some [.string s.data.toList] := by
  rw [Program.keyLits.eq_def]
  simp only [Try.underlying9, h, if_true]
theorem kl_val (d : Nat) (k i : Int) (s : ByteArray) (hk : (Lit.int .i64 k).wf = true) (hi : (Lit.int .i64 i).wf = true) (hs : s.size ≤ maxLen) : Try.prog.keyLits (d + 2) 27 [.int .i64 k, .int .i64 i, .string s] = some [.int .i64 k, .int .i64 i, .string s.data.toList] := by
  rw [Program.keyLits.eq_def]
  have h1 := kl_int d k hk
  have h2 := kl_int d i hi
  have h3 := kl_str d s hs
  simp [Try.underlying27, cells_v, cells_i, cells_s, h1, h2, h3]
theorem kl_split (d : Nat) (g k i : Int) (s : ByteArray) (hg : (Lit.int .i64 g).wf = true) (hk : (Lit.int .i64 k).wf = true) (hi : (Lit.int .i64 i).wf = true) (hs : s.size ≤ maxLen) : ∃ l, Try.prog.keyLits (d + 3) 188 [.int .i64 g, .int .i64 k, .int .i64 i, .string s] = some l := by
  refine ⟨[.int .i64 g, .int .i64 k, .int .i64 i, .string s.data.toList], ?_⟩
  rw [Program.keyLits.eq_def]
  have h1 := kl_int (d + 1) g hg
  have h2 := kl_val d k i s hk hi hs
  simp [Try.underlying188, cells_p, cells_v, cells_i, h1, h2]
theorem keyS_of (g : Nat) (v : Vl) (hg : g ≤ 1000) (hv : VlOk v) : ∃ kl, keyOf Try.prog 188 (keyS g v) = some kl := by
  obtain ⟨d, hd⟩ : ∃ d, Try.prog.types.size + 1 = d + 3 := ⟨Try.prog.types.size - 2, by have : 2 ≤ Try.prog.types.size := of_decide_eq_true (by kernel_rfl); omega⟩
  have hwg : (Lit.int .i64 g).wf = true := by
    have h1 : IntKind.i64.min = -9223372036854775808 := by decide
    have h2 : IntKind.i64.max = 9223372036854775807 := by decide
    simp only [Lit.wf, h1, h2, Bool.and_eq_true, decide_eq_true_eq]
    omega
  have hmx : v.s.size ≤ maxLen := by have := hv.2.2; unfold maxLen; omega
  obtain ⟨l, hl⟩ := kl_split d g v.k v.i v.s hwg hv.1 hv.2.1 hmx
  have hf : (Try.prog.keyType 188 && (keyS g v).formed Try.prog 188) = true := by
    rw [Bool.and_eq_true]
    refine ⟨by kernel_rfl, ?_⟩
    unfold keyS Value.formed
    rw [Try.underlying188]
    show (_ == Try.prog.cellsOf 188) = true
    rw [cells_p]
    rfl
  refine ⟨.string (keyBytes l), ?_⟩
  unfold keyOf
  rw [Try.underlying188]
  simp only [hf, if_true, hd]
  unfold keyS
  show Option.map _ (Try.prog.keyLits (d + 3) 188 [.int .i64 g, .int .i64 v.k, .int .i64 v.i, .string v.s]) = _
  rw [hl]
  rfl
end Go.Proofs.Ytfdjnhnchibejaa

/- Layer 14: which environments are alike, by which columns; the entries of a group's map. Condition: values that are not larger than memory. -/
namespace Go.Proofs.Ytfdjnhnchibejaa
open Go.RowKit

def eqV (x y : Vl) : Bool := sameV x.k x.i x.s y.k y.i y.s
theorem eqV_iff (x y : Vl) : eqV x y = true ↔ x = y := sameV_iff x y
def valAt (envs : List (List (List Vl))) (c : Ex) (i : Nat) : Vl := atE (envs.getD i []) c.t c.c
def alike (envs : List (List (List Vl))) (cs : List Ex) (i j : Nat) : Bool := cs.all fun c => eqV (valAt envs c i) (valAt envs c j)
theorem alike_iff (envs : List (List (List Vl))) (cs : List Ex) (i j : Nat) : alike envs cs i j = true ↔ ∀ c ∈ cs, valAt envs c i = valAt envs c j := by
  unfold alike
  simp only [List.all_eq_true, eqV_iff]
theorem alike_eqv (envs : List (List (List Vl))) (cs : List Ex) : Eqv (alike envs cs) :=
  ⟨fun _ => (alike_iff _ _ _ _).2 fun _ _ => rfl, fun h => (alike_iff _ _ _ _).2 fun c hc => ((alike_iff _ _ _ _).1 h c hc).symm, fun h k => (alike_iff _ _ _ _).2 fun c hc => ((alike_iff _ _ _ _).1 h c hc).trans ((alike_iff _ _ _ _).1 k c hc)⟩
theorem alike_snoc (envs : List (List (List Vl))) (cs : List Ex) (c : Ex) (i j : Nat) : alike envs (cs ++ [c]) i j = true ↔ alike envs cs i j = true ∧ valAt envs c i = valAt envs c j := by
  rw [alike_iff, alike_iff]
  constructor
  · intro h
    exact ⟨fun x hx => h x (by simp [hx]), h c (by simp)⟩
  · rintro ⟨h1, h2⟩ x hx
    rw [List.mem_append, List.mem_singleton] at hx
    rcases hx with hx | rfl
    · exact h1 x hx
    · exact h2
theorem gix_le (E : Nat → Nat → Bool) (i : Nat) : gix E i ≤ i := Nat.le_trans (rootsN_le _ _) (lst_le E i)
/-- The entries: one for each group, in the order in which they came. -/
def mapL (E E' : Nat → Nat → Bool) (V : Nat → Vl) (m : Nat) : List (Value × Value) := (rootsL m (lst E')).map fun q => (keyS (gix E q) (V q), .int .i64 (gix E' q : Nat))
section
variable {E E' : Nat → Nat → Bool} {V : Nat → Vl}
theorem mapL_len (m : Nat) : (mapL E E' V m).length = rootsN m (lst E') := by unfold mapL; rw [List.length_map, rootsL_len]
theorem mapL_keys {n m : Nat} (hn : n ≤ 1000) (hm : m ≤ n) (hV : ∀ q, VlOk (V q)) : ∀ p ∈ mapL E E' V m, ∃ kl, keyOf Try.prog 188 p.1 = some kl := by
  intro p hp
  obtain ⟨q, hq, rfl⟩ := List.mem_map.1 hp
  have h1 := (rootsL_mem hq).1
  have h2 := gix_le E q
  exact keyS_of _ _ (by omega) (hV q)
theorem mapL_out {m : Nat} (h : lst E' m ≠ m) : mapL E E' V (m + 1) = mapL E E' V m := by unfold mapL; rw [rootsL_out h]
theorem mapL_in {m : Nat} (h : lst E' m = m) : mapL E E' V (m + 1) = mapL E E' V m ++ [(keyS (gix E m) (V m), .int .i64 (gix E' m : Nat))] := by
  unfold mapL
  rw [rootsL_in h, List.map_append]
  rfl
variable (hE : Eqv E) (hE' : Eqv E') (hK : ∀ i j, E' i j = true ↔ E i j = true ∧ V i = V j)
include hE hE' hK
theorem mapL_hit {m : Nat} {v : Value} (h : (keyS (gix E m) (V m), v) ∈ mapL E E' V m) : v = .int .i64 (gix E' m : Nat) ∧ lst E' m ≠ m := by
  obtain ⟨q, hq, e⟩ := List.mem_map.1 h
  obtain ⟨h1, h2⟩ := rootsL_mem hq
  injection e with e1 e2
  obtain ⟨e3, e4⟩ := keyS_inj e1
  have h3 : E q m = true := (gix_eq hE).1 e3
  have h4 : E' q m = true := (hK q m).2 ⟨h3, e4⟩
  have h5 := (lst_eq hE').2 h4
  refine ⟨?_, by omega⟩
  rw [← e2]
  unfold gix
  rw [h5]
theorem mapL_miss {m : Nat} (h : ∀ p ∈ mapL E E' V m, p.1 ≠ keyS (gix E m) (V m)) : lst E' m = m := by
  rcases Nat.lt_or_ge (lst E' m) m with h1 | h1
  · exfalso
    have h2 := lst_rel hE' m
    have h3 := (lst_eq hE').2 h2
    have h4 : lst E' m ∈ rootsL m (lst E') := by unfold rootsL; simpa using ⟨h1, h3⟩
    refine h _ (List.mem_map.2 ⟨_, h4, rfl⟩) ?_
    obtain ⟨h5, h6⟩ := (hK _ _).1 h2
    show keyS _ _ = keyS _ _
    have h7 : gix E (lst E' m) = gix E m := (gix_eq hE).2 h5
    rw [h7, h6]
  · have := lst_le E' m
    omega
end
end Go.Proofs.Ytfdjnhnchibejaa

/- Environments: rows of rows of values, as they lie in memory, and as they come in. No condition. -/
namespace Go.Proofs.Ytfdjnhnchibejaa
open Go.RowKit Go.ChangeShapes Go.WideShapes Go.ChangeAt

def EnvR (R : Rw) (x : List (List Vl)) (cs : List Value) : Prop := ∃ A k, cs = [.slice A x.length k] ∧ x.length ≤ k ∧ RwsR R A x
def EnvsR (R : Rw) (A : Option Addr) (l : List (List (List Vl))) : Prop := ∃ css, ListR (EnvR R) 1 l css ∧ R 35 A css.flatten
def EnvsOk (x : List (List (List Vl))) : Prop := x.length ≤ 140737488355328 ∧ ∀ v ∈ x, RwsOk v
theorem EnvsR.grew {w w' : World} {A : Option Addr} {l : List (List (List Vl))} (h : EnvsR (PRow w) A l) (g : Grew w w') : EnvsR (PRow w') A l := by
  obtain ⟨css, h1, h2⟩ := h
  exact ⟨css, h1.map fun x cs ⟨A, k, e, hk, hx⟩ => ⟨A, k, e, hk, hx.grew g⟩, Row.grew h2 g⟩
theorem envsR_at {w : World} {A : Option Addr} {l : List (List (List Vl))} (h : EnvsR (PRow w) A l) {i : Nat} (hi : i < l.length) :
    ∃ b o B k, A = some ⟨b, o, none⟩ ∧ b < w.heap.size ∧ w.cell? ⟨b, o + i, none⟩ = some (.slice B l[i].length k) ∧ l[i].length ≤ k ∧ RwsR (PRow w) B l[i] := by
  obtain ⟨css, h1, h2⟩ := h
  obtain ⟨b, o, cs, hA, hb, hr, _, hc⟩ := h1.at_ h2 (by decide) hi
  obtain ⟨B, k, rfl, hk, hx⟩ := hr
  have := hc 0 _ rfl
  rw [Nat.mul_one] at this
  exact ⟨b, o, B, k, hA, hb, this, hk, hx⟩
section
variable {H : Type} {enc : TypeId × Value → H} {W : World}
theorem rdw_env : RdW enc Try.prog W 35 1 (fun (x : List (List Vl)) cs => EnvR (PRow W) x cs ∧ RwsOk x) :=
  rdw_map rdw_rows fun _ _ ⟨⟨A, c, h1, h2, h3⟩, h4⟩ => ⟨⟨A, c, h1, h2, h3⟩, h4⟩
theorem rdw_envs : RdW enc Try.prog W 22 1 (fun (x : List (List (List Vl))) cs => (∃ A c, cs = [.slice A x.length c] ∧ x.length ≤ c ∧ EnvsR (PRow W) A x) ∧ EnvsOk x) :=
  rdw_map (rdw_slice Try.underlying22 (by kernel_rfl) (by decide) (bytes := 24) (by kernel_rfl) rdw_env) fun l cs ⟨A, c, css, h1, h2, _, h4, h5, h6⟩ =>
    ⟨⟨A, c, h1, h2, css, h5.each.1, h6⟩, cap_small h2 (by decide) h4, h5.each.2⟩
end
end Go.Proofs.Ytfdjnhnchibejaa

/- Layer 8: sources that are the same. Condition: expressions that lie in memory that is there. -/
namespace Go.Proofs.Ytfdjnhnchibejaa
open Go.RowKit
attribute [local go_sem] more_cell more_frozen more_more more_setCell more_of_drew more_of_drewN lt_more le_more past_cell past_cell2 past_frozen past_frozen2 past_setCell past_setCell2 mid_cell mid_frozen mid_setCell
attribute [local go_sem ↓] Go.wp_at_zero Go.wp_at_succ

def frV (x : Fr) (A : Option Addr) (k : Nat) : Value := .agg #[.int .i64 x.join, .string x.table, .string x.short, .int .i64 x.on.op, .string x.on.tab, .string x.on.name, .int .i64 x.on.t, .int .i64 x.on.c, .int .i64 x.on.vk, .int .i64 x.on.vi, .string x.on.vs, .slice A x.on.l.length k]
theorem fr_same (x y : Fr) : x = y ↔ x.join = y.join ∧ x.table = y.table ∧ x.short = y.short ∧ x.on = y.on := by
  constructor
  · intro h; subst h; exact ⟨rfl, rfl, rfl, rfl⟩
  · intro ⟨h0, h1, h2, h3⟩
    cases x; cases y
    simp only at h0 h1 h2 h3
    subst h0 h1 h2 h3
    rfl
theorem bytes_beq (a b : ByteArray) (h : a = b) : (a.toList == b.toList) = true := by subst h; exact beq_self_eq_true _
theorem bytes_bne (a b : ByteArray) (h : ¬ a = b) : (a.toList == b.toList) = false := by rw [beq_eq_false_iff_ne]; exact fun e => h (bytes_ext e)
end Go.Proofs.Ytfdjnhnchibejaa

/- Layer 8: sources that are the same, one by one. Condition: expressions that lie in memory that is there. -/
namespace Go.Proofs.Ytfdjnhnchibejaa
open Go.RowKit
attribute [local go_sem] more_cell more_frozen more_more more_setCell more_of_drew more_of_drewN lt_more le_more past_cell past_cell2 past_frozen past_frozen2 past_setCell past_setCell2 mid_cell mid_frozen mid_setCell
attribute [local go_sem ↓] Go.wp_at_zero Go.wp_at_succ
def EqFr (w : World) (l m : List Fr) (i : Value) (wr : World) : Prop := ∃ j : Nat, j ≤ l.length ∧ i = .int .i64 j ∧ Grew w wr ∧ l.take j = m.take j
theorem frsR_all {w : World} {A : Option Addr} {l : List Fr} (h : FrsR (PRow w) A l) {i : Nat} (hi : i < l.length) :
    ∃ b o B k, A = some ⟨b, o, none⟩ ∧ ExsR (PRow w) B l[i].on.l ∧ b < w.heap.size ∧ ∀ j u, (Value.int .i64 l[i].join :: .string l[i].table :: .string l[i].short :: exC l[i].on B k)[j]? = some u → w.cell? ⟨b, o + i * 12 + j, none⟩ = some u := by
  obtain ⟨css, h1, h2⟩ := h
  obtain ⟨b, o, cs, hA, hb, hr, _, hc⟩ := h1.at_ h2 (by decide) hi
  obtain ⟨B, k, rfl, hp⟩ := hr
  exact ⟨b, o, B, k, hA, hp, hb, fun j u hu => by rw [Nat.add_assoc]; exact hc j u hu⟩
end Go.Proofs.Ytfdjnhnchibejaa

/- Layer 8: any two lists of expressions, one by one the same. Condition: expressions that lie in memory that is there. -/
namespace Go.Proofs.Ytfdjnhnchibejaa
open Go.RowKit
attribute [local go_sem] more_cell more_frozen more_more more_setCell more_of_drew more_of_drewN lt_more le_more past_cell past_cell2 past_frozen past_frozen2 past_setCell past_setCell2 mid_cell mid_frozen mid_setCell
attribute [local go_sem ↓] Go.wp_at_zero Go.wp_at_succ

def RAllAt (w : World) (l m : List Ex) (i : Value) (wr : World) : Prop := ∃ j : Nat, j ≤ l.length ∧ i = .int .i64 j ∧ Grew w wr ∧ l.take j = m.take j
theorem rall_len (l l' : List Ex) (A B : Option Addr) (k j : Nat) (h : l.length ≠ l'.length) (w : World) :
    Gives Try.prog 32 #[.slice A l.length k, .slice B l'.length j] w (.bool false) := by
  have e1 : ((l.length : Int) != (l'.length : Int)) = true := by rw [bne_iff_ne]; omega
  unfold Gives
  clear h
  go_enter Try.func32, Try.ntmps32
  go_wp2
  go_ret
  exact ⟨rfl, by (show Grew _ _; repeat (first | exact Grew.refl _ | refine Grew.alloc ?_ _ | refine Grew.drew ?_ | refine Grew.more ?_ _))⟩
set_option maxHeartbeats 1000000 in
theorem rall_list (l l' : List Ex) (A B : Option Addr) (k j m : Nat) (hm : l.length = m) (hm' : l'.length = m) (hs : m ≤ 1000000) (t : Bool) (ht : t = true ↔ l = l') (hn : ∀ y ∈ l, y.nodes ≤ 1000000)
    (w : World) (ra : ExsR (PRow w) A l) (rb : ExsR (PRow w) B l') :
    Gives Try.prog 32 #[.slice A m k, .slice B m j] w (.bool t) := by
  have RA := Lib.hid ra
  have RB := Lib.hid rb
  have HT := Lib.hid ht
  have HI := Lib.hid hn
  have HM := Lib.hid hm
  have HM' := Lib.hid hm'
  clear ra rb ht hn hm hm'
  unfold Gives
  go_enter Try.func32, Try.ntmps32
  go_wp2
  go_loopw [5] (fun i wr => RAllAt w l l' i wr) (fun i _ => m - (intOf i).toNat)
  case atStart => exact ⟨0, Nat.zero_le _, rfl, by (show Grew _ _; repeat (first | exact Grew.refl _ | refine Grew.alloc ?_ _ | refine Grew.drew ?_ | refine Grew.more ?_ _)), rfl⟩
  case round =>
    obtain ⟨i, hi, rfl, hg, hk⟩ := hrel
    rw [HM.out] at hi
    have HG := Lib.hid hg
    have HK := Lib.hid hk
    clear hg hk
    by_cases h : i < m
    · have h1 : i < l.length := by rw [HM.out]; exact h
      have h2 : i < l'.length := by rw [HM'.out]; exact h
      obtain ⟨ba, oa, PA, ka, rfl, hpa, h9⟩ := exsR_nine RA.out h1
      obtain ⟨bb, ob, PB, kb, rfl, hpb, h9'⟩ := exsR_nine RB.out h2
      obtain ⟨t2, ht2⟩ := some_bool (l[i] = l'[i])
      have HC : Hid (∀ W, Grew w W → Gives Try.prog 125 #[exV l[i] PA ka, exV l'[i] PB kb] W (.bool t2)) := Lib.hid fun W hW => rsame_ex 1000000 (by omega) _ _ (HI.out _ (List.getElem_mem h1)) _ _ _ _ t2 ht2 W (hpa.grew hW) (hpb.grew hW)
      have HN : Hid (t2 = true → l.take (i + 1) = l'.take (i + 1)) := Lib.hid fun q => take_same HK.out h1 h2 (ht2.1 q)
      have HF : Hid (t2 = false → t = false) := Lib.hid fun q => not_true HT.out (by
        intro e
        subst e
        have := ht2.2 rfl
        rw [q] at this
        cases this)
      obtain ⟨p0, a0, a1, a2, a3, a4, a5, a6, a7, a8⟩ := h9.grew HG.out
      obtain ⟨p1, d0, d1, d2, d3, d4, d5, d6, d7, d8⟩ := h9'.grew HG.out
      clear h9 h9' hpa hpb ht2 HI HT HK
      generalize l[i] = x at *
      generalize l'[i] = y at *
      clear h1 h2
      unfold exV at HC
      go_wp2
      refine wp_region_more (by kernel_rfl) (by kernel_rfl) ?_
      repeat (go_big_quiet_step (((go_at_call 125; exact (HC.out _ (HG.out.more _)).within))))
      refine wpQuiet_nil ?_
      rintro _ ⟨z, rfl⟩
      cases t2
      · obtain rfl := HF.out rfl
        go_wp2
        go_ret
        exact ⟨rfl, (HG.out.more _)⟩
      · go_wp2
        exact ⟨⟨i + 1, by rw [HM.out]; omega, by go_num, HG.out.more _, HN.out rfl⟩, by simp only [intOf]; omega⟩
    · obtain rfl : i = m := by omega
      have ht : t = true := HT.out.2 (by
        have := HK.out
        rw [List.take_of_length_le (Nat.le_of_eq HM.out), List.take_of_length_le (Nat.le_of_eq HM'.out)] at this
        exact this)
      subst ht
      go_wp2
      go_ret
      exact ⟨rfl, HG.out⟩
/-- The document's SameAll. -/
theorem rall_any (l l' : List Ex) (A B : Option Addr) (k j : Nat) (hs : l.length ≤ 1000000) (t : Bool) (ht : t = true ↔ l = l') (hn : ∀ y ∈ l, y.nodes ≤ 1000000) (w : World) (ra : ExsR (PRow w) A l) (rb : ExsR (PRow w) B l') :
    Gives Try.prog 32 #[.slice A l.length k, .slice B l'.length j] w (.bool t) := by
  by_cases h : l.length = l'.length
  · rw [← h]
    exact rall_list l l' A B k j l.length rfl h.symm hs t ht hn w ra rb
  · have hf : t = false := not_true ht (fun e => h (by rw [e]))
    subst hf
    exact rall_len l l' A B k j h w
end Go.Proofs.Ytfdjnhnchibejaa

/- Layer 8: what queries are more than is asked. Condition: a query that lies in memory that is there. -/
namespace Go.Proofs.Ytfdjnhnchibejaa
open Go.RowKit
attribute [local go_sem] more_cell more_frozen more_more more_setCell more_of_drew more_of_drewN lt_more le_more past_cell past_cell2 past_frozen past_frozen2 past_setCell past_setCell2 mid_cell mid_frozen mid_setCell
attribute [local go_sem ↓] Go.wp_at_zero Go.wp_at_succ

/-- No more than is asked of queries. -/
structure goodQ (q : Qy) : Prop where
  items : q.items.length ≤ 20
  src : q.src.length ≤ 12
  group : q.group.length ≤ 12
  wh : q.wh.nodes ≤ 200
  item : ∀ x ∈ q.items, x.nodes ≤ 200
  one : ∀ x ∈ q.group, x.nodes ≤ 200
  on : ∀ x ∈ q.src, x.on.nodes ≤ 200
/-- The cells of a query. -/
def qyC (it : List Ex) (sr : List Fr) (wh : Ex) (gr : List Ex) (A : Option Addr) (k : Nat) (B : Option Addr) (j : Nat) (C : Option Addr) (c : Nat) (D : Option Addr) (d : Nat) : Array Value :=
  #[.slice A it.length k, .slice B sr.length j, .int .i64 wh.op, .string wh.tab, .string wh.name, .int .i64 wh.t, .int .i64 wh.c, .int .i64 wh.vk, .int .i64 wh.vi, .string wh.vs, .slice C wh.l.length c, .slice D gr.length d]
structure At12 (w : World) (g : Nat) (x : Ex) (v0 v1 v10 v11 : Value) : Prop where
  lt : g < w.heap.size
  a0 : w.cell? ⟨g, 0, none⟩ = some v0
  a1 : w.cell? ⟨g, 1, none⟩ = some v1
  a2 : w.cell? ⟨g, 2, none⟩ = some (.int .i64 x.op)
  a3 : w.cell? ⟨g, 3, none⟩ = some (.string x.tab)
  a4 : w.cell? ⟨g, 4, none⟩ = some (.string x.name)
  a5 : w.cell? ⟨g, 5, none⟩ = some (.int .i64 x.t)
  a6 : w.cell? ⟨g, 6, none⟩ = some (.int .i64 x.c)
  a7 : w.cell? ⟨g, 7, none⟩ = some (.int .i64 x.vk)
  a8 : w.cell? ⟨g, 8, none⟩ = some (.int .i64 x.vi)
  a9 : w.cell? ⟨g, 9, none⟩ = some (.string x.vs)
  a10 : w.cell? ⟨g, 10, none⟩ = some v10
  a11 : w.cell? ⟨g, 11, none⟩ = some v11
theorem box12 {w : World} {g : Nat} {x : Ex} {v0 v1 v10 v11 : Value} (h : Blok w g 31 #[v0, v1, .int .i64 x.op, .string x.tab, .string x.name, .int .i64 x.t, .int .i64 x.c, .int .i64 x.vk, .int .i64 x.vi, .string x.vs, v10, v11]) : At12 w g x v0 v1 v10 v11 :=
  ⟨h.lt, h.cell 0, h.cell 1, h.cell 2, h.cell 3, h.cell 4, h.cell 5, h.cell 6, h.cell 7, h.cell 8, h.cell 9, h.cell 10, h.cell 11⟩
def smallE (l : List Ex) (j : Nat) : Prop := ∀ x ∈ l.take j, x.nodes ≤ 200
def smallF (l : List Fr) (j : Nat) : Prop := ∀ x ∈ l.take j, x.on.nodes ≤ 200
theorem smallE_all {l : List Ex} (h : smallE l l.length) : ∀ x ∈ l, x.nodes ≤ 200 := by unfold smallE at h; rwa [List.take_length] at h
theorem smallF_all {l : List Fr} (h : smallF l l.length) : ∀ x ∈ l, x.on.nodes ≤ 200 := by unfold smallF at h; rwa [List.take_length] at h
def MqAt (w : World) (cs : Array Value) (n : Nat) (P : Nat → Prop) (i : Value) (wr : World) : Prop := ∃ j : Nat, j ≤ n ∧ i = .int .i64 j ∧ Grew w wr ∧ Blok wr w.heap.size 31 cs ∧ P j
set_option maxHeartbeats 4000000 in
set_option maxRecDepth 100000 in
theorem muchq_any (it : List Ex) (sr : List Fr) (wh : Ex) (gr : List Ex) (A : Option Addr) (k : Nat) (B : Option Addr) (j : Nat) (C : Option Addr) (c : Nat) (D : Option Addr) (d : Nat) (w : World)
    (rA : ExsR (PRow w) A it) (rB : FrsR (PRow w) B sr) (rC : ExsR (PRow w) C wh.l) (rD : ExsR (PRow w) D gr) :
    Calls Try.prog 15 #[.agg (qyC it sr wh gr A k B j C c D d)] w (MuchR w (goodQ ⟨it, sr, wh, gr⟩)) := by
  have RA := Lib.hid rA
  have RB := Lib.hid rB
  have RD := Lib.hid rD
  have HMw : Hid (∀ W, Grew w W → Calls Try.prog 21 #[exV wh C c] W (MuchR W (wh.nodes ≤ 200))) := Lib.hid fun W hW => much8_any wh C c W (rC.grew hW)
  clear rA rB rC rD
  unfold qyC
  unfold exV at HMw
  by_cases h1 : 20 < it.length
  · have h1' : (20 : Int) < it.length := by omega
    clear HMw
    go_enter Try.func15, Try.ntmps15
    go_wp2
    go_ret
    exact muchR_true _ (by (show Grew _ _; repeat (first | exact Grew.refl _ | refine Grew.alloc ?_ _ | refine Grew.drew ?_ | refine Grew.more ?_ _)))
  have h1' : (it.length : Int) ≤ 20 := by omega
  by_cases h2 : 12 < sr.length
  · have h2' : (12 : Int) < sr.length := by omega
    clear HMw
    go_enter Try.func15, Try.ntmps15
    go_wp2
    go_ret
    exact muchR_true _ (by (show Grew _ _; repeat (first | exact Grew.refl _ | refine Grew.alloc ?_ _ | refine Grew.drew ?_ | refine Grew.more ?_ _)))
  have h2' : (sr.length : Int) ≤ 12 := by omega
  by_cases h3 : 12 < gr.length
  · have h3' : (12 : Int) < gr.length := by omega
    clear HMw
    go_enter Try.func15, Try.ntmps15
    go_wp2
    go_ret
    exact muchR_true _ (by (show Grew _ _; repeat (first | exact Grew.refl _ | refine Grew.alloc ?_ _ | refine Grew.drew ?_ | refine Grew.more ?_ _)))
  have h3' : (gr.length : Int) ≤ 12 := by omega
  go_enter Try.func15, Try.ntmps15
  go_wp2_with fail
  refine (HMw.out _ ((Grew.refl w).alloc _)).mono ?_
  rintro e w2 ⟨t, rfl, hg2, ht⟩
  have HG2 : Hid (Grew w w2) := Lib.hid (((Grew.refl w).alloc _).trans hg2)
  have HB2 := Lib.hid ((Blok.new w 31 #[.slice A it.length k, .slice B sr.length j, .int .i64 wh.op, .string wh.tab, .string wh.name, .int .i64 wh.t, .int .i64 wh.c, .int .i64 wh.vk, .int .i64 wh.vi, .string wh.vs, .slice C wh.l.length c, .slice D gr.length d] _ rfl).grew hg2)
  have HT := Lib.hid ht
  clear hg2 ht
  cases t
  rotate_left
  · go_wp2
    go_ret
    exact muchR_true _ HG2.out
  have HW := Lib.hid (HT.out (by first | rfl | trivial))
  clear HT HMw
  go_wp2
  go_loopw [3] (fun i wr => MqAt w #[.slice A it.length k, .slice B sr.length j, .int .i64 wh.op, .string wh.tab, .string wh.name, .int .i64 wh.t, .int .i64 wh.c, .int .i64 wh.vk, .int .i64 wh.vi, .string wh.vs, .slice C wh.l.length c, .slice D gr.length d] it.length (smallE it) i wr) (fun i _ => it.length - (intOf i).toNat)
  case atStart => exact ⟨0, Nat.zero_le _, rfl, HG2.out, HB2.out, by simp [smallE]⟩
  case round =>
    obtain ⟨i, hi, rfl, hg, hb, hp⟩ := hrel
    have HG := Lib.hid hg
    have HB := Lib.hid hb
    have HP := Lib.hid hp
    clear hg hb hp HG2 HB2
    by_cases h : i < it.length
    · obtain ⟨ba, oa, PA, ka, rfl, hpa, h9⟩ := exsR_nine RA.out h
      have HC : Hid (∀ W, Grew w W → Calls Try.prog 21 #[exV it[i] PA ka] W (MuchR W (it[i].nodes ≤ 200))) := Lib.hid fun W hW => much8_any _ _ _ W (hpa.grew hW)
      have HN := Lib.hid (fun hx => take_all (P := fun x : Ex => x.nodes ≤ 200) HP.out h hx)
      obtain ⟨p0, a0, a1, a2, a3, a4, a5, a6, a7, a8⟩ := h9.grew HG.out
      have b0 := (box12 HB.out).lt
      have c0 := (box12 HB.out).a0
      clear h9 hpa
      generalize it[i] = x at *
      unfold exV at HC
      go_wp2_with fail
      refine (HC.out _ HG.out).mono ?_
      rintro e w3 ⟨t, rfl, hg3, ht⟩
      have HG3 := Lib.hid hg3
      have HT := Lib.hid ht
      clear hg3 ht
      cases t
      · go_wp2
        exact ⟨⟨i + 1, by omega, by go_num, HG.out.trans HG3.out, HB.out.grew HG3.out, HN.out (HT.out (by first | rfl | trivial))⟩, by simp only [intOf]; omega⟩
      · go_wp2
        go_ret
        exact muchR_true _ (HG.out.trans HG3.out)
    · obtain rfl : i = it.length := by omega
      have HP1 := Lib.hid (smallE_all HP.out)
      have b0 := (box12 HB.out).lt
      have c0 := (box12 HB.out).a0
      go_wp2
      clear b0 c0
      go_loopw [4] (fun i wr => MqAt w #[.slice A it.length k, .slice B sr.length j, .int .i64 wh.op, .string wh.tab, .string wh.name, .int .i64 wh.t, .int .i64 wh.c, .int .i64 wh.vk, .int .i64 wh.vi, .string wh.vs, .slice C wh.l.length c, .slice D gr.length d] gr.length (smallE gr) i wr) (fun i _ => gr.length - (intOf i).toNat)
      case atStart => exact ⟨0, Nat.zero_le _, rfl, HG.out, HB.out, by simp [smallE]⟩
      case round =>
        clear HP HG HB RA
        obtain ⟨i, hi, rfl, hg, hb, hp⟩ := hrel
        have HG := Lib.hid hg
        have HB := Lib.hid hb
        have HP := Lib.hid hp
        clear hg hb hp
        by_cases h : i < gr.length
        · obtain ⟨ba, oa, PA, ka, rfl, hpa, h9⟩ := exsR_nine RD.out h
          have HC : Hid (∀ W, Grew w W → Calls Try.prog 21 #[exV gr[i] PA ka] W (MuchR W (gr[i].nodes ≤ 200))) := Lib.hid fun W hW => much8_any _ _ _ W (hpa.grew hW)
          have HN := Lib.hid (fun hx => take_all (P := fun x : Ex => x.nodes ≤ 200) HP.out h hx)
          obtain ⟨p0, a0, a1, a2, a3, a4, a5, a6, a7, a8⟩ := h9.grew HG.out
          have b0 := (box12 HB.out).lt
          have c11 := (box12 HB.out).a11
          clear h9 hpa
          generalize gr[i] = x at *
          unfold exV at HC
          go_wp2_with fail
          refine (HC.out _ HG.out).mono ?_
          rintro e w3 ⟨t, rfl, hg3, ht⟩
          have HG3 := Lib.hid hg3
          have HT := Lib.hid ht
          clear hg3 ht
          cases t
          · go_wp2
            exact ⟨⟨i + 1, by omega, by go_num, HG.out.trans HG3.out, HB.out.grew HG3.out, HN.out (HT.out (by first | rfl | trivial))⟩, by simp only [intOf]; omega⟩
          · go_wp2
            go_ret
            exact muchR_true _ (HG.out.trans HG3.out)
        · obtain rfl : i = gr.length := by omega
          have HP2 := Lib.hid (smallE_all HP.out)
          have b0 := (box12 HB.out).lt
          have c11 := (box12 HB.out).a11
          go_wp2
          clear b0 c11
          go_loopw [5] (fun i wr => MqAt w #[.slice A it.length k, .slice B sr.length j, .int .i64 wh.op, .string wh.tab, .string wh.name, .int .i64 wh.t, .int .i64 wh.c, .int .i64 wh.vk, .int .i64 wh.vi, .string wh.vs, .slice C wh.l.length c, .slice D gr.length d] sr.length (smallF sr) i wr) (fun i _ => sr.length - (intOf i).toNat)
          case atStart => exact ⟨0, Nat.zero_le _, rfl, HG.out, HB.out, by simp [smallF]⟩
          case round =>
            clear HP HG HB RD
            obtain ⟨i, hi, rfl, hg, hb, hp⟩ := hrel
            have HG := Lib.hid hg
            have HB := Lib.hid hb
            have HP := Lib.hid hp
            clear hg hb hp
            by_cases h : i < sr.length
            · obtain ⟨ba, oa, PA, ka, rfl, hpa, h9, e0, e1, e2⟩ := frsR_at RB.out h
              have HC : Hid (∀ W, Grew w W → Calls Try.prog 21 #[exV sr[i].on PA ka] W (MuchR W (sr[i].on.nodes ≤ 200))) := Lib.hid fun W hW => much8_any _ _ _ W (hpa.grew hW)
              have HN := Lib.hid (fun hx => take_all (P := fun x : Fr => x.on.nodes ≤ 200) HP.out h hx)
              have HS : Hid (∀ W, Grew wr W → At9 W ba (oa + i * 12 + 3) sr[i].on PA ka ∧ W.cell? ⟨ba, oa + i * 12 + 1, none⟩ = some (.string sr[i].table) ∧ W.cell? ⟨ba, oa + i * 12 + 2, none⟩ = some (.string sr[i].short)) := Lib.hid fun W hW => by
                have g := HG.out.trans hW
                have h9' := h9.grew g
                obtain ⟨z, rfl⟩ := g
                refine ⟨h9', ?_, ?_⟩
                · rw [more_cell _ _ _ h9.lt]; exact e1
                · rw [more_cell _ _ _ h9.lt]; exact e2
              have HBS := Lib.hid (fun W (hW : Grew wr W) => box12 (HB.out.grew hW))
              clear h9 hpa e0 e1 e2
              generalize sr[i] = x at *
              unfold exV at HC
              obtain ⟨q1, _⟩ := HS.out wr (Grew.refl _)
              obtain ⟨p0, a0, a1, a2, a3, a4, a5, a6, a7, a8⟩ := q1
              have b0 := (box12 HB.out).lt
              have c1 := (box12 HB.out).a1
              go_upto_region 16 with fail
              clear p0 a0 a1 a2 a3 a4 a5 a6 a7 a8 b0 c1
              refine wp_region_S (fun W => Grew wr W) (by kernel_rfl) ?_
              refine held_take 0 (v := ?_) rfl (by kernel_rfl) (by kernel_rfl) (by kernel_rfl) (fun _ _ _ h => h) (by rfl) ?_ (Grew.refl _).drew ?_
              rotate_left
              · (intro W hW; go_simp; with_reducible rfl)
              refine held_norm (a' := ?_) ?_ ?_
              rotate_left
              · (go_simp; with_reducible rfl)
              refine held_take 1 (v := ?_) rfl (by kernel_rfl) (by kernel_rfl) (by kernel_rfl) (fun _ _ _ h => h) (by rfl) ?_ (Grew.refl _).drew ?_
              rotate_left
              · (intro W hW; obtain ⟨⟨_, q0, q1, q2, q3, q4, q5, q6, q7, q8⟩, qt, qs⟩ := HS.out W hW; have r1 := (HBS.out W hW).a1; have r0 := (HBS.out W hW).lt; go_simp; with_reducible rfl)
              refine held_norm (a' := ?_) ?_ ?_
              rotate_left
              · (go_simp; with_reducible rfl)
              refine held_take 2 (v := ?_) rfl (by kernel_rfl) (by kernel_rfl) (by kernel_rfl) (fun _ _ _ h => h) (by rfl) ?_ (Grew.refl _).drew ?_
              rotate_left
              · (intro W hW; go_simp; with_reducible rfl)
              refine held_norm (a' := ?_) ?_ ?_
              rotate_left
              · (go_simp; with_reducible rfl)
              refine held_take 3 (v := ?_) rfl (by kernel_rfl) (by kernel_rfl) (by kernel_rfl) (fun _ _ _ h => h) (by rfl) ?_ (Grew.refl _).drew ?_
              rotate_left
              · (intro W hW; go_simp; with_reducible rfl)
              refine held_norm (a' := ?_) ?_ ?_
              rotate_left
              · (go_simp; with_reducible rfl)
              refine held_take 4 (v := ?_) rfl (by kernel_rfl) (by kernel_rfl) (by kernel_rfl) (fun _ _ _ h => h) (by rfl) ?_ (Grew.refl _).drew ?_
              rotate_left
              · (intro W hW; go_simp; with_reducible rfl)
              refine held_norm (a' := ?_) ?_ ?_
              rotate_left
              · (go_simp; with_reducible rfl)
              refine held_take 5 (v := ?_) rfl (by kernel_rfl) (by kernel_rfl) (by kernel_rfl) (fun _ _ _ h => h) (by rfl) ?_ (Grew.refl _).drew ?_
              rotate_left
              · (intro W hW; obtain ⟨⟨_, q0, q1, q2, q3, q4, q5, q6, q7, q8⟩, qt, qs⟩ := HS.out W hW; have r1 := (HBS.out W hW).a1; have r0 := (HBS.out W hW).lt; go_simp; with_reducible rfl)
              refine held_norm (a' := ?_) ?_ ?_
              rotate_left
              · (go_simp; with_reducible rfl)
              refine held_call 6 (by kernel_rfl) rfl (by rfl) (fun K hK => ?_)
              go_simp
              refine (HC.out _ (HG.out.trans (Grew.refl wr).drew)).mono ?_
              rintro e w3 ⟨t, rfl, hg3, ht⟩; have HG3 := Lib.hid (Grew.trans (Grew.refl wr).drew hg3); have HT := Lib.hid ht; clear hg3 ht
              go_wp2
              refine hK.out _ _ HG3.out ?_
              clear hK K
              cases t
              ·
                refine held_take 7 (v := ?_) rfl (by kernel_rfl) (by kernel_rfl) (by kernel_rfl) (fun _ _ _ h => h) (by rfl) ?_ HG3.out ?_
                rotate_left
                · (intro W hW; obtain ⟨⟨_, q0, q1, q2, q3, q4, q5, q6, q7, q8⟩, qt, qs⟩ := HS.out W hW; have r1 := (HBS.out W hW).a1; have r0 := (HBS.out W hW).lt; go_simp; with_reducible rfl)
                refine held_norm (a' := ?_) ?_ ?_
                rotate_left
                · (go_simp; with_reducible rfl)
                refine held_take 8 (v := ?_) rfl (by kernel_rfl) (by kernel_rfl) (by kernel_rfl) (fun _ _ _ h => h) (by rfl) ?_ HG3.out ?_
                rotate_left
                · (intro W hW; go_simp; with_reducible rfl)
                refine held_take 10 (v := ?_) rfl (by kernel_rfl) (by kernel_rfl) (by kernel_rfl) (fun _ _ _ h => h) (by rfl) ?_ HG3.out ?_
                rotate_left
                · (intro W hW; go_simp; with_reducible rfl)
                refine held_norm (a' := ?_) ?_ ?_
                rotate_left
                · (go_simp; with_reducible rfl)
                refine held_take 9 (v := ?_) rfl (by kernel_rfl) (by kernel_rfl) (by kernel_rfl) (fun _ _ _ h => h) (by rfl) ?_ HG3.out ?_
                rotate_left
                · (intro W hW; obtain ⟨⟨_, q0, q1, q2, q3, q4, q5, q6, q7, q8⟩, qt, qs⟩ := HS.out W hW; have r1 := (HBS.out W hW).a1; have r0 := (HBS.out W hW).lt; go_simp; with_reducible rfl)
                refine held_norm (a' := ?_) ?_ ?_
                rotate_left
                · (go_simp; with_reducible rfl)
                refine held_take 11 (v := ?_) rfl (by kernel_rfl) (by kernel_rfl) (by kernel_rfl) (fun _ _ _ h => h) (by rfl) ?_ HG3.out ?_
                rotate_left
                · (intro W hW; go_simp; with_reducible rfl)
                refine held_norm (a' := ?_) ?_ ?_
                rotate_left
                · (go_simp; with_reducible rfl)
                refine held_take 12 (v := ?_) rfl (by kernel_rfl) (by kernel_rfl) (by kernel_rfl) (fun _ _ _ h => h) (by rfl) ?_ HG3.out ?_
                rotate_left
                · (intro W hW; go_simp; with_reducible rfl)
                refine held_norm (a' := ?_) ?_ ?_
                rotate_left
                · (go_simp; with_reducible rfl)
                refine held_take 13 (v := ?_) rfl (by kernel_rfl) (by kernel_rfl) (by kernel_rfl) (fun _ _ _ h => h) (by rfl) ?_ HG3.out ?_
                rotate_left
                · (intro W hW; obtain ⟨⟨_, q0, q1, q2, q3, q4, q5, q6, q7, q8⟩, qt, qs⟩ := HS.out W hW; have r1 := (HBS.out W hW).a1; have r0 := (HBS.out W hW).lt; go_simp; with_reducible rfl)
                refine held_norm (a' := ?_) ?_ ?_
                rotate_left
                · (go_simp; with_reducible rfl)
                refine held_take 14 (v := ?_) rfl (by kernel_rfl) (by kernel_rfl) (by kernel_rfl) (fun _ _ _ h => h) (by rfl) ?_ HG3.out ?_
                rotate_left
                · (intro W hW; go_simp; with_reducible rfl)
                refine held_norm (a' := ?_) ?_ ?_
                rotate_left
                · (go_simp; with_reducible rfl)
                refine held_take 15 (v := ?_) rfl (by kernel_rfl) (by kernel_rfl) (by kernel_rfl) (fun _ _ _ h => h) (by rfl) ?_ HG3.out ?_
                rotate_left
                · (intro W hW; go_simp; with_reducible rfl)
                refine held_take 17 (v := ?_) rfl (by kernel_rfl) (by kernel_rfl) (by kernel_rfl) (fun _ _ _ h => h) (by rfl) ?_ HG3.out ?_
                rotate_left
                · (intro W hW; go_simp; with_reducible rfl)
                refine held_norm (a' := ?_) ?_ ?_
                rotate_left
                · (go_simp; with_reducible rfl)
                refine held_take 16 (v := ?_) rfl (by kernel_rfl) (by kernel_rfl) (by kernel_rfl) (fun _ _ _ h => h) (by rfl) ?_ HG3.out ?_
                rotate_left
                · (intro W hW; obtain ⟨⟨_, q0, q1, q2, q3, q4, q5, q6, q7, q8⟩, qt, qs⟩ := HS.out W hW; have r1 := (HBS.out W hW).a1; have r0 := (HBS.out W hW).lt; go_simp; with_reducible rfl)
                refine held_norm (a' := ?_) ?_ ?_
                rotate_left
                · (go_simp; with_reducible rfl)
                refine held_take 18 (v := ?_) rfl (by kernel_rfl) (by kernel_rfl) (by kernel_rfl) (fun _ _ _ h => h) (by rfl) ?_ HG3.out ?_
                rotate_left
                · (intro W hW; go_simp; with_reducible rfl)
                refine held_norm (a' := ?_) ?_ ?_
                rotate_left
                · (go_simp; with_reducible rfl)
                refine held_take 19 (v := ?_) rfl (by kernel_rfl) (by kernel_rfl) (by kernel_rfl) (fun _ _ _ h => h) (by rfl) ?_ HG3.out ?_
                rotate_left
                · (intro W hW; go_simp; with_reducible rfl)
                refine held_norm (a' := ?_) ?_ ?_
                rotate_left
                · (go_simp; with_reducible rfl)
                refine held_take 20 (v := ?_) rfl (by kernel_rfl) (by kernel_rfl) (by kernel_rfl) (fun _ _ _ h => h) (by rfl) ?_ HG3.out ?_
                rotate_left
                · (intro W hW; obtain ⟨⟨_, q0, q1, q2, q3, q4, q5, q6, q7, q8⟩, qt, qs⟩ := HS.out W hW; have r1 := (HBS.out W hW).a1; have r0 := (HBS.out W hW).lt; go_simp; with_reducible rfl)
                refine held_norm (a' := ?_) ?_ ?_
                rotate_left
                · (go_simp; with_reducible rfl)
                refine held_take 21 (v := ?_) rfl (by kernel_rfl) (by kernel_rfl) (by kernel_rfl) (fun _ _ _ h => h) (by rfl) ?_ HG3.out ?_
                rotate_left
                · (intro W hW; go_simp; with_reducible rfl)
                refine held_norm (a' := ?_) ?_ ?_
                rotate_left
                · (go_simp; with_reducible rfl)
                refine held_take 22 (v := ?_) rfl (by kernel_rfl) (by kernel_rfl) (by kernel_rfl) (fun _ _ _ h => h) (by rfl) ?_ HG3.out ?_
                rotate_left
                · (intro W hW; go_simp; with_reducible rfl)
                refine held_norm (a' := ?_) ?_ ?_
                rotate_left
                · (go_simp; with_reducible rfl)
                refine held_take 23 (v := ?_) rfl (by kernel_rfl) (by kernel_rfl) (by kernel_rfl) (fun _ _ _ h => h) (by rfl) ?_ HG3.out ?_
                rotate_left
                · (intro W hW; go_simp; with_reducible rfl)
                refine held_norm (a' := ?_) ?_ ?_
                rotate_left
                · (go_simp; with_reducible rfl)
                refine held_take 24 (v := ?_) rfl (by kernel_rfl) (by kernel_rfl) (by kernel_rfl) (fun _ _ _ h => h) (by rfl) ?_ HG3.out ?_
                rotate_left
                · (intro W hW; go_simp; with_reducible rfl)
                refine held_norm (a' := ?_) ?_ ?_
                rotate_left
                · (go_simp; with_reducible rfl)
                refine held_done (by kernel_rfl) ?_
                go_upto_region 17 with fail
                · go_wp2
                  go_ret
                  exact muchR_true _ (HG.out.trans HG3.out)
                · exact ⟨⟨i + 1, by omega, by go_num, HG.out.trans HG3.out, HB.out.grew HG3.out, HN.out (HT.out (by first | rfl | trivial))⟩, by simp only [intOf]; omega⟩
              ·
                refine held_take 7 (v := ?_) rfl (by kernel_rfl) (by kernel_rfl) (by kernel_rfl) (fun _ _ _ h => h) (by rfl) ?_ HG3.out ?_
                rotate_left
                · (intro W hW; obtain ⟨⟨_, q0, q1, q2, q3, q4, q5, q6, q7, q8⟩, qt, qs⟩ := HS.out W hW; have r1 := (HBS.out W hW).a1; have r0 := (HBS.out W hW).lt; go_simp; with_reducible rfl)
                refine held_norm (a' := ?_) ?_ ?_
                rotate_left
                · (go_simp; with_reducible rfl)
                refine held_skip 8 rfl (by kernel_rfl) (by kernel_rfl) (by kernel_rfl) (fun _ _ _ h => h) (by rfl) HG3.out ?_
                refine held_norm (a' := ?_) ?_ ?_
                rotate_left
                · (go_simp; with_reducible rfl)
                refine held_skip 9 rfl (by kernel_rfl) (by kernel_rfl) (by kernel_rfl) (fun _ _ _ h => h) (by rfl) HG3.out ?_
                refine held_norm (a' := ?_) ?_ ?_
                rotate_left
                · (go_simp; with_reducible rfl)
                refine held_skip 10 rfl (by kernel_rfl) (by kernel_rfl) (by kernel_rfl) (fun _ _ _ h => h) (by rfl) HG3.out ?_
                refine held_norm (a' := ?_) ?_ ?_
                rotate_left
                · (go_simp; with_reducible rfl)
                refine held_skip 11 rfl (by kernel_rfl) (by kernel_rfl) (by kernel_rfl) (fun _ _ _ h => h) (by rfl) HG3.out ?_
                refine held_norm (a' := ?_) ?_ ?_
                rotate_left
                · (go_simp; with_reducible rfl)
                refine held_skip 12 rfl (by kernel_rfl) (by kernel_rfl) (by kernel_rfl) (fun _ _ _ h => h) (by rfl) HG3.out ?_
                refine held_norm (a' := ?_) ?_ ?_
                rotate_left
                · (go_simp; with_reducible rfl)
                refine held_skip 13 rfl (by kernel_rfl) (by kernel_rfl) (by kernel_rfl) (fun _ _ _ h => h) (by rfl) HG3.out ?_
                refine held_norm (a' := ?_) ?_ ?_
                rotate_left
                · (go_simp; with_reducible rfl)
                refine held_skip 14 rfl (by kernel_rfl) (by kernel_rfl) (by kernel_rfl) (fun _ _ _ h => h) (by rfl) HG3.out ?_
                refine held_norm (a' := ?_) ?_ ?_
                rotate_left
                · (go_simp; with_reducible rfl)
                refine held_skip 15 rfl (by kernel_rfl) (by kernel_rfl) (by kernel_rfl) (fun _ _ _ h => h) (by rfl) HG3.out ?_
                refine held_norm (a' := ?_) ?_ ?_
                rotate_left
                · (go_simp; with_reducible rfl)
                refine held_skip 16 rfl (by kernel_rfl) (by kernel_rfl) (by kernel_rfl) (fun _ _ _ h => h) (by rfl) HG3.out ?_
                refine held_norm (a' := ?_) ?_ ?_
                rotate_left
                · (go_simp; with_reducible rfl)
                refine held_skip 17 rfl (by kernel_rfl) (by kernel_rfl) (by kernel_rfl) (fun _ _ _ h => h) (by rfl) HG3.out ?_
                refine held_norm (a' := ?_) ?_ ?_
                rotate_left
                · (go_simp; with_reducible rfl)
                refine held_skip 18 rfl (by kernel_rfl) (by kernel_rfl) (by kernel_rfl) (fun _ _ _ h => h) (by rfl) HG3.out ?_
                refine held_norm (a' := ?_) ?_ ?_
                rotate_left
                · (go_simp; with_reducible rfl)
                refine held_skip 19 rfl (by kernel_rfl) (by kernel_rfl) (by kernel_rfl) (fun _ _ _ h => h) (by rfl) HG3.out ?_
                refine held_norm (a' := ?_) ?_ ?_
                rotate_left
                · (go_simp; with_reducible rfl)
                refine held_skip 20 rfl (by kernel_rfl) (by kernel_rfl) (by kernel_rfl) (fun _ _ _ h => h) (by rfl) HG3.out ?_
                refine held_norm (a' := ?_) ?_ ?_
                rotate_left
                · (go_simp; with_reducible rfl)
                refine held_skip 21 rfl (by kernel_rfl) (by kernel_rfl) (by kernel_rfl) (fun _ _ _ h => h) (by rfl) HG3.out ?_
                refine held_norm (a' := ?_) ?_ ?_
                rotate_left
                · (go_simp; with_reducible rfl)
                refine held_skip 22 rfl (by kernel_rfl) (by kernel_rfl) (by kernel_rfl) (fun _ _ _ h => h) (by rfl) HG3.out ?_
                refine held_norm (a' := ?_) ?_ ?_
                rotate_left
                · (go_simp; with_reducible rfl)
                refine held_skip 23 rfl (by kernel_rfl) (by kernel_rfl) (by kernel_rfl) (fun _ _ _ h => h) (by rfl) HG3.out ?_
                refine held_norm (a' := ?_) ?_ ?_
                rotate_left
                · (go_simp; with_reducible rfl)
                refine held_take 24 (v := ?_) rfl (by kernel_rfl) (by kernel_rfl) (by kernel_rfl) (fun _ _ _ h => h) (by rfl) ?_ HG3.out ?_
                rotate_left
                · (intro W hW; obtain ⟨⟨_, q0, q1, q2, q3, q4, q5, q6, q7, q8⟩, qt, qs⟩ := HS.out W hW; have r1 := (HBS.out W hW).a1; have r0 := (HBS.out W hW).lt; go_simp; with_reducible rfl)
                refine held_norm (a' := ?_) ?_ ?_
                rotate_left
                · (go_simp; with_reducible rfl)
                refine held_done (by kernel_rfl) ?_
                go_wp2
                go_ret
                exact muchR_true _ (HG.out.trans HG3.out)
            · obtain rfl : i = sr.length := by omega
              have HP3 := Lib.hid (smallF_all HP.out)
              have b0 := (box12 HB.out).lt
              have c1 := (box12 HB.out).a1
              go_wp2
              go_ret
              exact muchR_false HG.out ⟨by show it.length ≤ 20; omega, by show sr.length ≤ 12; omega, by show gr.length ≤ 12; omega, HW.out, HP1.out, HP2.out, HP3.out⟩
end Go.Proofs.Ytfdjnhnchibejaa

/- Layer 16: how many tables may be put in any order: the core, by the program and by the document. Condition: a query that lies in memory that is there. -/
namespace Go.Proofs.Ytfdjnhnchibejaa
open Go.RowKit
attribute [local go_sem] more_cell more_frozen more_more more_setCell more_of_drew more_of_drewN lt_more le_more past_cell past_cell2 past_frozen past_frozen2 past_setCell past_setCell2 mid_cell mid_frozen mid_setCell
attribute [local go_sem ↓] Go.wp_at_zero Go.wp_at_succ

def coreGo : List Fr → Nat
  | [] => 0
  | f :: l => if f.join = 1 then 1 + coreGo l else 0
/-- The tables ahead of the first one, behind the first, that does not come by an inner join. -/
def coreN : List Fr → Nat
  | [] => 0
  | _ :: l => 1 + coreGo l
theorem coreGo_at : ∀ (l : List Fr) (n : Nat) (_ : n ≤ l.length) (_ : ∀ i (h : i < l.length), i < n → l[i].join = 1) (_ : n = l.length ∨ ∃ h : n < l.length, ¬ l[n].join = 1), coreGo l = n
  | [], n, hn, _, _ => by simp at hn; subst hn; rfl
  | f :: l, n, hn, h1, h2 => by
    rcases n with _ | n
    · have : ¬ f.join = 1 := by
        rcases h2 with h | ⟨_, h⟩
        · simp at h
        · simpa using h
      simp [coreGo, this]
    · have hf : f.join = 1 := h1 0 (by simp) (by omega)
      have ih := coreGo_at l n (by simpa using hn) (fun i h hi => by have := h1 (i + 1) (by simpa using h) (by omega); exact this) (by
        rcases h2 with h | ⟨h, h'⟩
        · exact Or.inl (by simpa using h)
        · exact Or.inr ⟨by simpa using h, by simpa using h'⟩)
      rw [coreGo, if_pos hf, ih]
      omega
theorem coreN_at (l : List Fr) (n : Nat) (hn : n ≤ l.length) (h1 : ∀ i (h : i < l.length), 0 < i → i < n → l[i].join = 1) (h2 : n = l.length ∨ ∃ h : n < l.length, 0 < n ∧ ¬ l[n].join = 1) : coreN l = n := by
  cases l with
  | nil => simp at hn; subst hn; rfl
  | cons f l =>
    have h0 : 0 < n := by
      rcases h2 with h | ⟨_, h, _⟩
      · rw [h]; simp
      · exact h
    obtain ⟨m, rfl⟩ : ∃ m, n = m + 1 := ⟨n - 1, by omega⟩
    rw [coreN, coreGo_at l m (by simpa using hn) (fun i h hi => by have := h1 (i + 1) (by simpa using h) (by omega) (by omega); exact this) (by
      rcases h2 with h | ⟨h, _, h'⟩
      · exact Or.inl (by simpa using h)
      · exact Or.inr ⟨by simpa using h, by simpa using h'⟩)]
    omega
theorem coreN_le : ∀ l : List Fr, coreN l ≤ l.length := by
  have : ∀ l : List Fr, coreGo l ≤ l.length := by
    intro l
    induction l with
    | nil => exact Nat.le_refl _
    | cons f l ih =>
      rw [coreGo]
      split
      · simp; omega
      · omega
  intro l
  cases l with
  | nil => exact Nat.le_refl _
  | cons f l => rw [coreN]; have := this l; simp; omega
def CoreAt (u : World) (g : Nat) (cs : Array Value) (l : List Fr) (i : Value) (wr : World) : Prop :=
  ∃ j : Nat, j ≤ l.length ∧ i = .int .i64 j ∧ Grew u wr ∧ Blok wr g 31 cs ∧ ∀ q (h : q < l.length), 0 < q → q < j → l[q].join = 1
set_option maxHeartbeats 4000000 in
set_option maxRecDepth 100000 in
theorem core_any (it : List Ex) (sr : List Fr) (wh : Ex) (gr : List Ex) (A : Option Addr) (k : Nat) (B : Option Addr) (j : Nat) (C : Option Addr) (c : Nat) (D : Option Addr) (d : Nat) (w : World)
    (hs : sr.length ≤ 1000000) (rB : FrsR (PRow w) B sr) :
    Gives Try.prog 30 #[.agg (qyC it sr wh gr A k B j C c D d)] w (.int .i64 (coreN sr)) := by
  have RB := Lib.hid rB
  have HE := Lib.hid (coreN_at sr)
  obtain ⟨r, hr⟩ : ∃ r, coreN sr = r := ⟨_, rfl⟩
  rw [hr] at HE ⊢
  clear rB hr
  obtain ⟨W0, hW0⟩ : ∃ W0, W0 = w.alloc (.cells (qyC it sr wh gr A k B j C c D d) 31) := ⟨_, rfl⟩
  have HG0 : Hid (Grew w W0) := Lib.hid (by rw [hW0]; exact (Grew.refl w).alloc _)
  have HB0 : Hid (Blok W0 w.heap.size 31 (qyC it sr wh gr A k B j C c D d)) := Lib.hid (by rw [hW0]; exact Blok.new _ _ _ _ rfl)
  unfold Gives
  unfold qyC at *
  go_enter Try.func30, Try.ntmps30
  go_upto_region 1 with fail
  rw [← hW0]
  clear hW0
  generalize w.heap.size = g at *
  have b0 := (box12 HB0.out).lt
  have c1 := (box12 HB0.out).a1
  go_wp2
  clear b0 c1
  go_loopw [8] (fun i wr => CoreAt w g #[.slice A it.length k, .slice B sr.length j, .int .i64 wh.op, .string wh.tab, .string wh.name, .int .i64 wh.t, .int .i64 wh.c, .int .i64 wh.vk, .int .i64 wh.vi, .string wh.vs, .slice C wh.l.length c, .slice D gr.length d] sr i wr) (fun i _ => sr.length - (intOf i).toNat)
  case atStart => exact ⟨0, Nat.zero_le _, rfl, HG0.out, HB0.out, fun q h h1 h2 => by omega⟩
  case round =>
    obtain ⟨i, hi, rfl, hg, hb, hk⟩ := hrel
    have HG := Lib.hid hg
    have HB := Lib.hid hb
    have HK := Lib.hid hk
    clear hg hb hk HG0 HB0
    by_cases h : i < sr.length
    · obtain ⟨b, o, P, kp, rfl, _, hlb, hc⟩ := frsR_all (RB.out.grew HG.out) h
      have HYes : Hid (0 < i → ¬ sr[i].join = 1 → r = i) := Lib.hid fun h0 h1 => HE.out i (by omega) (fun q hq h2 h3 => HK.out q hq h2 h3) (Or.inr ⟨h, h0, h1⟩)
      have HNo : Hid ((i = 0 ∨ sr[i].join = 1) → ∀ q (hq : q < sr.length), 0 < q → q < i + 1 → sr[q].join = 1) := Lib.hid fun h0 q hq h1 h2 => by
        by_cases hqi : q = i
        · subst hqi
          rcases h0 with h0 | h0
          · omega
          · exact h0
        · exact HK.out q hq h1 (by omega)
      have q0 := hc 0 _ rfl
      rw [Nat.add_zero] at q0
      have q1 := hc 1 _ rfl
      have q2 := hc 2 _ rfl
      have q3 := hc 3 _ rfl
      have q4 := hc 4 _ rfl
      have q5 := hc 5 _ rfl
      have q6 := hc 6 _ rfl
      have q7 := hc 7 _ rfl
      have q8 := hc 8 _ rfl
      have q9 := hc 9 _ rfl
      have q10 := hc 10 _ rfl
      have q11 := hc 11 _ rfl
      clear hc HK HE
      generalize hjn : sr[i].join = jn at *
      clear hjn
      generalize sr[i] = x at *
      have hcase : (i = 0) ∨ (0 < i ∧ jn = 1) ∨ (0 < i ∧ (jn != 1) = true ∧ ¬ jn = 1) := by
        by_cases h0 : i = 0
        · exact Or.inl h0
        · by_cases h1 : jn = 1
          · exact Or.inr (Or.inl ⟨by omega, h1⟩)
          · exact Or.inr (Or.inr ⟨by omega, by simpa using h1, h1⟩)
      rcases hcase with h0 | ⟨h0, h1⟩ | ⟨h0, h1, h2⟩
      · have HN := Lib.hid (HNo.out (Or.inl h0))
        have h0' : (i : Int) ≤ 0 := by omega
        clear HYes HNo h0
        go_wp2
        exact ⟨⟨i + 1, by omega, by go_num, HG.out.alloc _, HB.out.alloc _, HN.out⟩, by simp only [intOf]; omega⟩
      · have HN := Lib.hid (HNo.out (Or.inr h1))
        subst h1
        have h0' : (0 : Int) < i := by omega
        clear HYes HNo
        go_wp2
        exact ⟨⟨i + 1, by omega, by go_num, HG.out.alloc _, HB.out.alloc _, HN.out⟩, by simp only [intOf]; omega⟩
      · obtain rfl := HYes.out h0 h2
        have h0' : (0 : Int) < r := by omega
        clear HNo h2 HYes
        go_wp2
        go_ret
        exact ⟨rfl, HG.out.alloc _⟩
    · obtain rfl : i = sr.length := by omega
      have hr : r = sr.length := HE.out _ (Nat.le_refl _) (fun q hq h2 h3 => HK.out q hq h2 h3) (Or.inl rfl)
      subst hr
      clear HE HK
      have b0 := (box12 HB.out).lt
      have c1 := (box12 HB.out).a1
      go_wp2
      go_ret
      exact ⟨rfl, HG.out⟩
set_option maxHeartbeats 4000000 in
set_option maxRecDepth 100000 in
theorem rcore_any (it : List Ex) (sr : List Fr) (wh : Ex) (gr : List Ex) (A : Option Addr) (k : Nat) (B : Option Addr) (j : Nat) (C : Option Addr) (c : Nat) (D : Option Addr) (d : Nat) (w : World)
    (hs : sr.length ≤ 1000000) (rB : FrsR (PRow w) B sr) :
    Gives Try.prog 31 #[.agg (qyC it sr wh gr A k B j C c D d)] w (.int .i64 (coreN sr)) := by
  have RB := Lib.hid rB
  have HE := Lib.hid (coreN_at sr)
  obtain ⟨r, hr⟩ : ∃ r, coreN sr = r := ⟨_, rfl⟩
  rw [hr] at HE ⊢
  clear rB hr
  obtain ⟨W0, hW0⟩ : ∃ W0, W0 = w.alloc (.cells (qyC it sr wh gr A k B j C c D d) 31) := ⟨_, rfl⟩
  have HG0 : Hid (Grew w W0) := Lib.hid (by rw [hW0]; exact (Grew.refl w).alloc _)
  have HB0 : Hid (Blok W0 w.heap.size 31 (qyC it sr wh gr A k B j C c D d)) := Lib.hid (by rw [hW0]; exact Blok.new _ _ _ _ rfl)
  unfold Gives
  unfold qyC at *
  go_enter Try.func31, Try.ntmps31
  go_upto_region 1 with fail
  rw [← hW0]
  clear hW0
  generalize w.heap.size = g at *
  go_wp2
  go_loopw [3] (fun i wr => CoreAt w g #[.slice A it.length k, .slice B sr.length j, .int .i64 wh.op, .string wh.tab, .string wh.name, .int .i64 wh.t, .int .i64 wh.c, .int .i64 wh.vk, .int .i64 wh.vi, .string wh.vs, .slice C wh.l.length c, .slice D gr.length d] sr i wr) (fun i _ => sr.length - (intOf i).toNat)
  case atStart => exact ⟨0, Nat.zero_le _, rfl, HG0.out, HB0.out, fun q h h1 h2 => by omega⟩
  case round =>
    obtain ⟨i, hi, rfl, hg, hb, hk⟩ := hrel
    have HG := Lib.hid hg
    have HB := Lib.hid hb
    have HK := Lib.hid hk
    have b0 := (box12 hb).lt
    have c1 := (box12 hb).a1
    clear hg hb hk HG0 HB0
    by_cases h : i < sr.length
    · obtain ⟨b, o, P, kp, rfl, _, hlb, hc⟩ := frsR_all (RB.out.grew HG.out) h
      have HYes : Hid (0 < i → ¬ sr[i].join = 1 → r = i) := Lib.hid fun h0 h1 => HE.out i (by omega) (fun q hq h2 h3 => HK.out q hq h2 h3) (Or.inr ⟨h, h0, h1⟩)
      have HNo : Hid ((i = 0 ∨ sr[i].join = 1) → ∀ q (hq : q < sr.length), 0 < q → q < i + 1 → sr[q].join = 1) := Lib.hid fun h0 q hq h1 h2 => by
        by_cases hqi : q = i
        · subst hqi
          rcases h0 with h0 | h0
          · omega
          · exact h0
        · exact HK.out q hq h1 (by omega)
      have q0 := hc 0 _ rfl
      rw [Nat.add_zero] at q0
      clear hc HK HE
      generalize sr[i].join = jn at *
      have hcase : (i = 0) ∨ (((i : Int) == 0) = false ∧ jn = 1 ∧ 0 < i) ∨ (((i : Int) == 0) = false ∧ (jn == 1) = false ∧ ¬ jn = 1 ∧ 0 < i) := by
        by_cases h0 : i = 0
        · exact Or.inl h0
        · by_cases h1 : jn = 1
          · exact Or.inr (Or.inl ⟨by simpa using h0, h1, by omega⟩)
          · exact Or.inr (Or.inr ⟨by simpa using h0, by simpa using h1, h1, by omega⟩)
      rcases hcase with h0 | ⟨h0, h1, h2⟩ | ⟨h0, h1, h2, h3⟩
      · have HN := Lib.hid (HNo.out (Or.inl h0))
        have h0' : ((i : Int) == 0) = true := by rw [h0]; rfl
        clear HYes HNo h0
        go_wp2
        exact ⟨⟨i + 1, by omega, by go_num, HG.out, HB.out, HN.out⟩, by simp only [intOf]; omega⟩
      · have HN := Lib.hid (HNo.out (Or.inr h1))
        subst h1
        clear HYes HNo h2
        go_wp2
        exact ⟨⟨i + 1, by omega, by go_num, HG.out, HB.out, HN.out⟩, by simp only [intOf]; omega⟩
      · obtain rfl := HYes.out h3 h2
        clear HNo h2 HYes h3
        go_wp2
        go_ret
        exact ⟨rfl, HG.out⟩
    · obtain rfl : i = sr.length := by omega
      have hr : r = sr.length := HE.out _ (Nat.le_refl _) (fun q hq h2 h3 => HK.out q hq h2 h3) (Or.inl rfl)
      subst hr
      clear HE HK
      go_wp2
      go_ret
      exact ⟨rfl, HG.out⟩
end Go.Proofs.Ytfdjnhnchibejaa

/- Layer 16: two columns that must be the same, by the program. Condition: an expression that lies in memory that is there. -/
namespace Go.Proofs.Ytfdjnhnchibejaa
open Go.RowKit
attribute [local go_sem] more_cell more_frozen more_more more_setCell more_of_drew more_of_drewN lt_more le_more past_cell past_cell2 past_frozen past_frozen2 past_setCell past_setCell2 mid_cell mid_frozen mid_setCell
attribute [local go_sem ↓] Go.wp_at_zero Go.wp_at_succ

/-- Two columns, by their tables and places. -/
structure Ed where
  a : Int
  ac : Int
  b : Int
  bc : Int
def edC (e : Ed) : Array Value := #[.int .i64 e.a, .int .i64 e.ac, .int .i64 e.b, .int .i64 e.bc]
def edV (e : Ed) : Value := .agg #[.int .i64 e.a, .int .i64 e.ac, .int .i64 e.b, .int .i64 e.bc]
def edgeP (x : Ex) : Ed × Bool :=
  match x.l with
  | [a, b] => if x.op = 1 ∧ a.op = 15 ∧ b.op = 15 ∧ ¬ a.t = b.t then (if a.t < b.t then ⟨a.t, a.c, b.t, b.c⟩ else ⟨b.t, b.c, a.t, a.c⟩, true) else (⟨0, 0, 0, 0⟩, false)
  | _ => (⟨0, 0, 0, 0⟩, false)
theorem edgeP_op {x : Ex} (h : ¬ x.op = 1) : edgeP x = (⟨0, 0, 0, 0⟩, false) := by
  unfold edgeP
  split
  · rw [if_neg (fun e => h e.1)]
  · rfl
theorem edgeP_len {x : Ex} (h : ¬ x.l.length = 2) : edgeP x = (⟨0, 0, 0, 0⟩, false) := by
  unfold edgeP
  split
  · rename_i a b e
    rw [e] at h
    exact absurd rfl h
  · rfl
theorem edgeP_two {x : Ex} (h1 : x.op = 1) (h : x.l.length = 2) : edgeP x =
    if (x.l[0]'(by omega)).op = 15 ∧ (x.l[1]'(by omega)).op = 15 ∧ ¬ (x.l[0]'(by omega)).t = (x.l[1]'(by omega)).t then
      (if (x.l[0]'(by omega)).t < (x.l[1]'(by omega)).t then ⟨(x.l[0]'(by omega)).t, (x.l[0]'(by omega)).c, (x.l[1]'(by omega)).t, (x.l[1]'(by omega)).c⟩ else ⟨(x.l[1]'(by omega)).t, (x.l[1]'(by omega)).c, (x.l[0]'(by omega)).t, (x.l[0]'(by omega)).c⟩, true)
    else (⟨0, 0, 0, 0⟩, false) := by
  obtain ⟨op, tab, name, t, c, vk, vi, vs, l⟩ := x
  simp only [Ex.op, Ex.l] at h1 h
  subst h1
  match l, h with
  | [a, b], _ =>
    unfold edgeP
    show (if (1 : Int) = 1 ∧ a.op = 15 ∧ b.op = 15 ∧ ¬ a.t = b.t then ((if a.t < b.t then ⟨a.t, a.c, b.t, b.c⟩ else ⟨b.t, b.c, a.t, a.c⟩ : Ed), true) else (⟨0, 0, 0, 0⟩, false)) = if a.op = 15 ∧ b.op = 15 ∧ ¬ a.t = b.t then ((if a.t < b.t then ⟨a.t, a.c, b.t, b.c⟩ else ⟨b.t, b.c, a.t, a.c⟩ : Ed), true) else (⟨0, 0, 0, 0⟩, false)
    by_cases hc : a.op = 15 ∧ b.op = 15 ∧ ¬ a.t = b.t
    · rw [if_pos ⟨rfl, hc⟩, if_pos hc]
    · rw [if_neg (fun e => hc e.2), if_neg hc]
theorem ed_in {w : World} {g : Nat} {a0 a1 a2 a3 : Value} (h : Blok w g 42 #[a0, a1, a2, a3]) : g < w.heap.size ∧ w.cell? ⟨g, 0, none⟩ = some a0 ∧ w.cell? ⟨g, 1, none⟩ = some a1 ∧ w.cell? ⟨g, 2, none⟩ = some a2 ∧ w.cell? ⟨g, 3, none⟩ = some a3 ∧ w.frozen? ⟨g, 0, none⟩ = false ∧ w.frozen? ⟨g, 1, none⟩ = false ∧ w.frozen? ⟨g, 2, none⟩ = false ∧ w.frozen? ⟨g, 3, none⟩ = false :=
  ⟨h.lt, h.cell 0, h.cell 1, h.cell 2, h.cell 3, h.thaw 0, h.thaw 1, h.thaw 2, h.thaw 3⟩
theorem ed_set {w : World} {g : Nat} {a0 a1 a2 a3 : Value} (h : Blok w g 42 #[a0, a1, a2, a3]) (b0 b1 b2 b3 : Value) : Blok ((((w.setCell ⟨g, 0, none⟩ b0).setCell ⟨g, 1, none⟩ b1).setCell ⟨g, 2, none⟩ b2).setCell ⟨g, 3, none⟩ b3) g 42 #[b0, b1, b2, b3] := by
  have := (((h.set 0 b0).set 1 b1).set 2 b2).set 3 b3
  simpa using this
theorem grew_set4 {u w : World} (h : Grew u w) {g : Nat} (hg : u.heap.size ≤ g) (b0 b1 b2 b3 : Value) : Grew u ((((w.setCell ⟨g, 0, none⟩ b0).setCell ⟨g, 1, none⟩ b1).setCell ⟨g, 2, none⟩ b2).setCell ⟨g, 3, none⟩ b3) :=
  Grew.setCell (Grew.setCell (Grew.setCell (Grew.setCell h hg _) hg _) hg _) hg _
theorem held_two {P : Program} {ops : Array Oper} {Q : Exit → Act → World → Prop} {wc : World} {S : World → Prop} (i j : Nat) {o o' : Oper} {fuel : Nat} {listed : Array Bool} {a : Act} (hr : Region.ready .any ops listed = [i, j]) (ho : ops[i]? = some o) (ho' : ops[j]? = some o') (hw : Region.wanted o (yielded ops a.tmps) = true) (hw' : Region.wanted o' (yielded ops a.tmps) = true)
    (h : ∀ K' : Act → World → Prop, Hid (∀ a W, S W → wpAnyH P .any ops Q S fuel (listed.setIfInBounds i true) a W → K' a W) → Oper.wp P o a wc K' Q)
    (h' : ∀ K' : Act → World → Prop, Hid (∀ a W, S W → wpAnyH P .any ops Q S fuel (listed.setIfInBounds j true) a W → K' a W) → Oper.wp P o' a wc K' Q) : wpAnyH P .any ops Q S (fuel + 1) listed a wc := by
  refine wpAnyH_ready hr (by simp) (AllReadyH.cons ho (fun K' hK => ?_) (AllReadyH.cons ho' (fun K' hK => ?_) AllReadyH.nil))
  · rw [if_pos hw]
    exact h K' (Lib.hid fun a W hG hW => hK.out a W hG (fun _ => hW))
  · rw [if_pos hw']
    exact h' K' (Lib.hid fun a W hG hW => hK.out a W hG (fun _ => hW))
set_option maxHeartbeats 4000000 in
set_option maxRecDepth 100000 in
theorem edge_any (x : Ex) (A : Option Addr) (k : Nat) (w : World) (ra : ExsR (PRow w) A x.l) :
    Gives Try.prog 23 #[exV x A k] w (.tuple #[edV (edgeP x).1, .bool (edgeP x).2]) := by
  obtain ⟨W0, hW0⟩ : ∃ W0, W0 = (w.alloc (.cells (exC x A k).toArray 29)).alloc (.cells #[.int .i64 0, .int .i64 0, .int .i64 0, .int .i64 0] 42) := ⟨_, rfl⟩
  have HG0 : Hid (Grew w W0) := Lib.hid (by rw [hW0]; exact ((Grew.refl w).alloc _).alloc _)
  have HX0 : Hid (Blok W0 w.heap.size 29 (exC x A k).toArray) := Lib.hid (by rw [hW0]; exact (Blok.new _ _ _ _ rfl).alloc _)
  have HR0 : Hid (Blok W0 (w.heap.size + 1) 42 #[.int .i64 0, .int .i64 0, .int .i64 0, .int .i64 0]) := Lib.hid (by rw [hW0]; exact Blok.new _ _ _ _ (by simp))
  have HP : Hid (∀ i (h : i < x.l.length), ∃ b o B k, A = some ⟨b, o, none⟩ ∧ ExsR (PRow W0) B x.l[i].l ∧ At9 W0 b (o + i * 9) x.l[i] B k) := Lib.hid fun i h => exsR_nine (ra.grew HG0.out) h
  clear ra
  have hbad : (x.op ≠ 1 ∨ ¬ x.l.length = 2) → edgeP x = (⟨0, 0, 0, 0⟩, false) := fun h => by
    rcases h with h | h
    · exact edgeP_op h
    · exact edgeP_len h
  obtain ⟨q0, s0, s1, s2, s3, s4, s5, s6, s7, s8⟩ := blok9 HX0.out
  obtain ⟨el, e0, e1, e2, e3, f0, f1, f2, f3⟩ := ed_in HR0.out
  by_cases h1 : x.op = 1
  rotate_left
  · rw [hbad (Or.inl h1)]
    have h1' : (x.op != 1) = true := by simpa using h1
    clear hbad h1 HP
    unfold exV edV
    unfold exC at hW0
    unfold Gives
    generalize x.l.length = n at *
    go_enter Try.func23, Try.ntmps23
    go_upto_region 1 with fail
    rw [← hW0]
    clear hW0
    generalize hgw : w.heap.size = g at *
    have HGW := Lib.hid (Nat.le_of_eq hgw)
    clear hgw
    go_wp2
    have hb := ed_set HR0.out (.int .i64 0) (.int .i64 0) (.int .i64 0) (.int .i64 0)
    obtain ⟨_, r0, r1, r2, r3, _, _, _, _⟩ := ed_in hb
    exact bodyPost_ret (v := .tuple #[.agg #[.int .i64 0, .int .i64 0, .int .i64 0, .int .i64 0], .bool false]) (by simp [results, Try.results23, go_sem, r0, r1, r2, r3]) rfl ⟨rfl, grew_set4 HG0.out (Nat.le_trans HGW.out (Nat.le_succ g)) _ _ _ _⟩
  by_cases h2 : x.l.length = 2
  rotate_left
  · rw [hbad (Or.inr h2)]
    have h2' : ((x.l.length : Int) != 2) = true := by rw [bne_iff_ne]; omega
    have h1' : (x.op != 1) = false := by simpa using h1
    clear hbad h1 HP h2
    unfold exV edV
    unfold exC at hW0
    unfold Gives
    generalize x.l.length = n at *
    go_enter Try.func23, Try.ntmps23
    go_upto_region 1 with fail
    rw [← hW0]
    clear hW0
    generalize hgw : w.heap.size = g at *
    have HGW := Lib.hid (Nat.le_of_eq hgw)
    clear hgw
    go_wp2
    have hb := ed_set HR0.out (.int .i64 0) (.int .i64 0) (.int .i64 0) (.int .i64 0)
    obtain ⟨_, r0, r1, r2, r3, _, _, _, _⟩ := ed_in hb
    exact bodyPost_ret (v := .tuple #[.agg #[.int .i64 0, .int .i64 0, .int .i64 0, .int .i64 0], .bool false]) (by simp [results, Try.results23, go_sem, r0, r1, r2, r3]) rfl ⟨rfl, grew_set4 HG0.out (Nat.le_trans HGW.out (Nat.le_succ g)) _ _ _ _⟩
  have hE := edgeP_two h1 h2
  obtain ⟨b, o, P, kp, hA, _, h9⟩ := HP.out 0 (by omega)
  obtain ⟨b', o', P', kp', hA', _, h9'⟩ := HP.out 1 (by omega)
  subst hA
  simp only [Option.some.injEq, Addr.mk.injEq, and_true] at hA'
  obtain ⟨rfl, rfl⟩ := hA'
  have h1' : (x.op != 1) = false := by simpa using h1
  obtain ⟨r, hr⟩ : ∃ r, edgeP x = r := ⟨_, rfl⟩
  rw [hr] at hE ⊢
  have HE := Lib.hid hE
  clear hbad hr HP hE
  unfold exC at hW0
  unfold exV
  rw [h2] at s8
  rw [h1] at s0
  rw [h1, h2] at hW0 ⊢
  have H1 := Lib.hid h1
  clear h1
  generalize x.l[0] = p at *
  generalize x.l[1] = q at *
  rw [Nat.zero_mul, Nat.add_zero] at h9
  rw [Nat.one_mul] at h9'
  have HP9 := Lib.hid h9
  have HQ9 := Lib.hid h9'
  obtain ⟨pl, m0, m1, m2, m3, m4, m5, m6, m7, m8⟩ := h9
  obtain ⟨pl', n0, n1, n2, n3, n4, n5, n6, n7, n8⟩ := h9'
  unfold Gives
  go_enter Try.func23, Try.ntmps23
  go_upto_region 1 with fail
  rw [← hW0]
  clear hW0
  generalize hgw : w.heap.size = g at *
  have HGW := Lib.hid (Nat.le_of_eq hgw)
  clear hgw
  go_upto_region 3 with fail
  go_cut [4, 5] (fun u v wx => ∃ g4 g5, u = .pointer (some ⟨g4, 0, none⟩) ∧ v = .pointer (some ⟨g5, 0, none⟩) ∧ g4 ≠ g5 ∧ W0.heap.size ≤ g4 ∧ W0.heap.size ≤ g5 ∧ Blok wx g4 29 (exC p P kp).toArray ∧ Blok wx g5 29 (exC q P' kp').toArray ∧ Grew W0 wx)
  case first =>
    refine wp_region_S (fun W => Grew W0 W) (by kernel_rfl) ?_
    refine held_take 0 (v := ?_) rfl (by kernel_rfl) (by kernel_rfl) (by kernel_rfl) (fun _ _ _ h => h) (by rfl) ?_ (Grew.refl _).drew ?_
    rotate_left
    · (intro W hW; obtain ⟨_, _, _, _, _, _, _, _, _, s8⟩ := blok9 (HX0.out.grew hW); obtain ⟨_, m0, m1, m2, m3, m4, m5, m6, m7, m8⟩ := HP9.out.grew hW; obtain ⟨_, n0, n1, n2, n3, n4, n5, n6, n7, n8⟩ := HQ9.out.grew hW; rw [h2] at s8; go_simp; with_reducible rfl)
    refine held_take 1 (v := ?_) rfl (by kernel_rfl) (by kernel_rfl) (by kernel_rfl) (fun _ _ _ h => h) (by rfl) ?_ (Grew.refl _).drew ?_
    rotate_left
    · (intro W hW; obtain ⟨_, _, _, _, _, _, _, _, _, s8⟩ := blok9 (HX0.out.grew hW); obtain ⟨_, m0, m1, m2, m3, m4, m5, m6, m7, m8⟩ := HP9.out.grew hW; obtain ⟨_, n0, n1, n2, n3, n4, n5, n6, n7, n8⟩ := HQ9.out.grew hW; rw [h2] at s8; go_simp; with_reducible rfl)
    refine held_take 2 (v := ?_) rfl (by kernel_rfl) (by kernel_rfl) (by kernel_rfl) (fun _ _ _ h => h) (by rfl) ?_ (Grew.refl _).drew ?_
    rotate_left
    · (intro W hW; obtain ⟨_, _, _, _, _, _, _, _, _, s8⟩ := blok9 (HX0.out.grew hW); obtain ⟨_, m0, m1, m2, m3, m4, m5, m6, m7, m8⟩ := HP9.out.grew hW; obtain ⟨_, n0, n1, n2, n3, n4, n5, n6, n7, n8⟩ := HQ9.out.grew hW; rw [h2] at s8; go_simp; with_reducible rfl)
    refine held_take 3 (v := ?_) rfl (by kernel_rfl) (by kernel_rfl) (by kernel_rfl) (fun _ _ _ h => h) (by rfl) ?_ (Grew.refl _).drew ?_
    rotate_left
    · (intro W hW; obtain ⟨_, _, _, _, _, _, _, _, _, s8⟩ := blok9 (HX0.out.grew hW); obtain ⟨_, m0, m1, m2, m3, m4, m5, m6, m7, m8⟩ := HP9.out.grew hW; obtain ⟨_, n0, n1, n2, n3, n4, n5, n6, n7, n8⟩ := HQ9.out.grew hW; rw [h2] at s8; go_simp; with_reducible rfl)
    refine held_take 4 (v := ?_) rfl (by kernel_rfl) (by kernel_rfl) (by kernel_rfl) (fun _ _ _ h => h) (by rfl) ?_ (Grew.refl _).drew ?_
    rotate_left
    · (intro W hW; obtain ⟨_, _, _, _, _, _, _, _, _, s8⟩ := blok9 (HX0.out.grew hW); obtain ⟨_, m0, m1, m2, m3, m4, m5, m6, m7, m8⟩ := HP9.out.grew hW; obtain ⟨_, n0, n1, n2, n3, n4, n5, n6, n7, n8⟩ := HQ9.out.grew hW; rw [h2] at s8; go_simp; with_reducible rfl)
    refine held_take 5 (v := ?_) rfl (by kernel_rfl) (by kernel_rfl) (by kernel_rfl) (fun _ _ _ h => h) (by rfl) ?_ (Grew.refl _).drew ?_
    rotate_left
    · (intro W hW; obtain ⟨_, _, _, _, _, _, _, _, _, s8⟩ := blok9 (HX0.out.grew hW); obtain ⟨_, m0, m1, m2, m3, m4, m5, m6, m7, m8⟩ := HP9.out.grew hW; obtain ⟨_, n0, n1, n2, n3, n4, n5, n6, n7, n8⟩ := HQ9.out.grew hW; rw [h2] at s8; go_simp; with_reducible rfl)
    refine held_take 6 (v := ?_) rfl (by kernel_rfl) (by kernel_rfl) (by kernel_rfl) (fun _ _ _ h => h) (by rfl) ?_ (Grew.refl _).drew ?_
    rotate_left
    · (intro W hW; obtain ⟨_, _, _, _, _, _, _, _, _, s8⟩ := blok9 (HX0.out.grew hW); obtain ⟨_, m0, m1, m2, m3, m4, m5, m6, m7, m8⟩ := HP9.out.grew hW; obtain ⟨_, n0, n1, n2, n3, n4, n5, n6, n7, n8⟩ := HQ9.out.grew hW; rw [h2] at s8; go_simp; with_reducible rfl)
    refine held_take 7 (v := ?_) rfl (by kernel_rfl) (by kernel_rfl) (by kernel_rfl) (fun _ _ _ h => h) (by rfl) ?_ (Grew.refl _).drew ?_
    rotate_left
    · (intro W hW; obtain ⟨_, _, _, _, _, _, _, _, _, s8⟩ := blok9 (HX0.out.grew hW); obtain ⟨_, m0, m1, m2, m3, m4, m5, m6, m7, m8⟩ := HP9.out.grew hW; obtain ⟨_, n0, n1, n2, n3, n4, n5, n6, n7, n8⟩ := HQ9.out.grew hW; rw [h2] at s8; go_simp; with_reducible rfl)
    refine held_norm (a' := ?_) ?_ ?_
    rotate_left
    · (go_simp; with_reducible rfl)
    refine held_two 8 9 (by kernel_rfl) rfl rfl (by rfl) (by rfl) (fun K hK => ?_) (fun K hK => ?_)
    · go_simp
      go_wp2_with fail
      refine hK.out _ _ (by repeat (first | exact Grew.refl _ | refine Grew.alloc ?_ _ | refine Grew.drew ?_ | refine Grew.setCell ?_ (by simp) _)) ?_
      clear hK K
      refine held_call 9 (by kernel_rfl) rfl (by rfl) (fun K hK => ?_)
      go_simp
      go_wp2_with fail
      refine hK.out _ _ (by repeat (first | exact Grew.refl _ | refine Grew.alloc ?_ _ | refine Grew.drew ?_ | refine Grew.setCell ?_ (by simp) _)) ?_
      clear hK K
      refine held_call 10 (by kernel_rfl) rfl (by rfl) (fun K hK => ?_)
      go_simp
      go_wp2_with fail
      refine hK.out _ _ (by repeat (first | exact Grew.refl _ | refine Grew.alloc ?_ _ | refine Grew.drew ?_ | refine Grew.setCell ?_ (by simp) _)) ?_
      clear hK K
      refine held_call 11 (by kernel_rfl) rfl (by rfl) (fun K hK => ?_)
      go_simp
      go_wp2_with fail
      refine hK.out _ _ (by repeat (first | exact Grew.refl _ | refine Grew.alloc ?_ _ | refine Grew.drew ?_ | refine Grew.setCell ?_ (by simp) _)) ?_
      clear hK K
      refine held_done (by kernel_rfl) ?_
      go_wp2_with fail
      go_meet
      exact ⟨_, _, rfl, rfl, by simp, Nat.le_refl _, Nat.le_succ _, (Blok.new _ _ _ _ rfl).alloc _, Blok.new _ _ _ _ (by simp), (by repeat (first | exact Grew.refl _ | refine Grew.alloc ?_ _ | refine Grew.drew ?_ | refine Grew.setCell ?_ (by simp) _))⟩
    · go_simp
      go_wp2_with fail
      refine hK.out _ _ (by repeat (first | exact Grew.refl _ | refine Grew.alloc ?_ _ | refine Grew.drew ?_ | refine Grew.setCell ?_ (by simp) _)) ?_
      clear hK K
      refine held_call 8 (by kernel_rfl) rfl (by rfl) (fun K hK => ?_)
      go_simp
      go_wp2_with fail
      refine hK.out _ _ (by repeat (first | exact Grew.refl _ | refine Grew.alloc ?_ _ | refine Grew.drew ?_ | refine Grew.setCell ?_ (by simp) _)) ?_
      clear hK K
      refine held_call 10 (by kernel_rfl) rfl (by rfl) (fun K hK => ?_)
      go_simp
      go_wp2_with fail
      refine hK.out _ _ (by repeat (first | exact Grew.refl _ | refine Grew.alloc ?_ _ | refine Grew.drew ?_ | refine Grew.setCell ?_ (by simp) _)) ?_
      clear hK K
      refine held_call 11 (by kernel_rfl) rfl (by rfl) (fun K hK => ?_)
      go_simp
      go_wp2_with fail
      refine hK.out _ _ (by repeat (first | exact Grew.refl _ | refine Grew.alloc ?_ _ | refine Grew.drew ?_ | refine Grew.setCell ?_ (by simp) _)) ?_
      clear hK K
      refine held_done (by kernel_rfl) ?_
      go_wp2_with fail
      go_meet
      exact ⟨_, _, rfl, rfl, by simp, Nat.le_succ _, Nat.le_refl _, Blok.new _ _ _ _ (by simp), (Blok.new _ _ _ _ rfl).alloc _, (by repeat (first | exact Grew.refl _ | refine Grew.alloc ?_ _ | refine Grew.drew ?_ | refine Grew.setCell ?_ (by simp) _))⟩
  case rest =>
    obtain ⟨g4, g5, rfl, rfl, hne, hl4, hl5, hb4, hb5, hg⟩ := hcut
    have HR4 := Lib.hid (HR0.out.grew hg)
    have HG4 := Lib.hid (HG0.out.trans hg)
    have HSZ := Lib.hid HG0.out.size
    have hlr := HR0.out.lt
    have hr4 : g + 1 ≠ g4 := by omega
    have hr5 : g + 1 ≠ g5 := by omega
    have HL4 : Hid (w.heap.size ≤ g4) := Lib.hid (Nat.le_trans HSZ.out hl4)
    have HL5 : Hid (w.heap.size ≤ g5) := Lib.hid (Nat.le_trans HSZ.out hl5)
    have HB4 := Lib.hid hb4
    have HB5 := Lib.hid hb5
    clear q0 s0 s1 s2 s3 s4 s5 s6 s7 s8 el e0 e1 e2 e3 f0 f1 f2 f3 pl m0 m1 m2 m3 m4 m5 m6 m7 m8 pl' n0 n1 n2 n3 n4 n5 n6 n7 n8 hg hb4 hb5 hl4 hl5 hlr HP9 HQ9 HX0 HR0
    obtain ⟨al, a0, a1, a2, a3, a4, a5, a6, a7, a8⟩ := blok9 HB4.out
    obtain ⟨bl, b0, b1, b2, b3, b4, b5, b6, b7, b8⟩ := blok9 HB5.out
    obtain ⟨el, e0, e1, e2, e3, f0, f1, f2, f3⟩ := ed_in HR4.out
    by_cases c1 : p.op = 15
    rotate_left
    · obtain rfl : r = (⟨0, 0, 0, 0⟩, false) := by rw [HE.out, if_neg (fun e => c1 e.1)]
      have c1' : (p.op != 15) = true := by simpa using c1
      clear HE c1
      go_wp2
      have hb := ed_set HR4.out (.int .i64 0) (.int .i64 0) (.int .i64 0) (.int .i64 0)
      obtain ⟨_, r0, r1, r2, r3, _, _, _, _⟩ := ed_in hb
      exact bodyPost_ret (v := .tuple #[.agg #[.int .i64 0, .int .i64 0, .int .i64 0, .int .i64 0], .bool false]) (by simp [results, Try.results23, go_sem, r0, r1, r2, r3]) rfl ⟨rfl, grew_set4 HG4.out (Nat.le_trans HGW.out (Nat.le_succ g)) _ _ _ _⟩
    have c1' : (p.op != 15) = false := by simpa using c1
    by_cases c2 : q.op = 15
    rotate_left
    · obtain rfl : r = (⟨0, 0, 0, 0⟩, false) := by rw [HE.out, if_neg (fun e => c2 e.2.1)]
      have c2' : (q.op != 15) = true := by simpa using c2
      clear HE c1 c2
      go_wp2
      have hb := ed_set HR4.out (.int .i64 0) (.int .i64 0) (.int .i64 0) (.int .i64 0)
      obtain ⟨_, r0, r1, r2, r3, _, _, _, _⟩ := ed_in hb
      exact bodyPost_ret (v := .tuple #[.agg #[.int .i64 0, .int .i64 0, .int .i64 0, .int .i64 0], .bool false]) (by simp [results, Try.results23, go_sem, r0, r1, r2, r3]) rfl ⟨rfl, grew_set4 HG4.out (Nat.le_trans HGW.out (Nat.le_succ g)) _ _ _ _⟩
    have c2' : (q.op != 15) = false := by simpa using c2
    by_cases c3 : p.t = q.t
    · obtain rfl : r = (⟨0, 0, 0, 0⟩, false) := by rw [HE.out, if_neg (fun e => e.2.2 c3)]
      have c3' : (p.t == q.t) = true := by simpa using c3
      clear HE c1 c2 c3
      go_wp2
      have hb := ed_set HR4.out (.int .i64 0) (.int .i64 0) (.int .i64 0) (.int .i64 0)
      obtain ⟨_, r0, r1, r2, r3, _, _, _, _⟩ := ed_in hb
      exact bodyPost_ret (v := .tuple #[.agg #[.int .i64 0, .int .i64 0, .int .i64 0, .int .i64 0], .bool false]) (by simp [results, Try.results23, go_sem, r0, r1, r2, r3]) rfl ⟨rfl, grew_set4 HG4.out (Nat.le_trans HGW.out (Nat.le_succ g)) _ _ _ _⟩
    have c3' : (p.t == q.t) = false := by simpa using c3
    by_cases c4 : p.t < q.t
    · obtain rfl : r = (⟨p.t, p.c, q.t, q.c⟩, true) := by rw [HE.out, if_pos ⟨c1, c2, c3⟩, if_pos c4]
      have c4' : p.t ≤ q.t := by omega
      clear HE c1 c2 c3
      go_wp2
      have hb := ed_set HR4.out (.int .i64 p.t) (.int .i64 p.c) (.int .i64 q.t) (.int .i64 q.c)
      obtain ⟨_, r0, r1, r2, r3, _, _, _, _⟩ := ed_in hb
      exact bodyPost_ret (v := .tuple #[.agg #[.int .i64 p.t, .int .i64 p.c, .int .i64 q.t, .int .i64 q.c], .bool true]) (by simp [results, Try.results23, go_sem, r0, r1, r2, r3]) rfl ⟨rfl, grew_set4 HG4.out (Nat.le_trans HGW.out (Nat.le_succ g)) _ _ _ _⟩
    · obtain rfl : r = (⟨q.t, q.c, p.t, p.c⟩, true) := by rw [HE.out, if_pos ⟨c1, c2, c3⟩, if_neg c4]
      have c4' : q.t < p.t := by omega
      clear HE c1 c2 c3 c4
      have y0 := HB4.out.thaw 0
      have y1 := HB4.out.thaw 1
      have y2 := HB4.out.thaw 2
      have y3 := HB4.out.thaw 3
      have y4 := HB4.out.thaw 4
      have y5 := HB4.out.thaw 5
      have y6 := HB4.out.thaw 6
      have y7 := HB4.out.thaw 7
      have y8 := HB4.out.thaw 8
      have v0 := HB5.out.thaw 0
      have v1 := HB5.out.thaw 1
      have v2 := HB5.out.thaw 2
      have v3 := HB5.out.thaw 3
      have v4 := HB5.out.thaw 4
      have v5 := HB5.out.thaw 5
      have v6 := HB5.out.thaw 6
      have v7 := HB5.out.thaw 7
      have v8 := HB5.out.thaw 8
      have hne' : g5 ≠ g4 := fun e => hne e.symm
      go_wp2
      have bz : Blok ((((((((((((((((((wc.setCell ⟨g4, 0, none⟩ (.int .i64 q.op)).setCell ⟨g4, 1, none⟩ (.string q.tab)).setCell ⟨g4, 2, none⟩ (.string q.name)).setCell ⟨g4, 3, none⟩ (.int .i64 q.t)).setCell ⟨g4, 4, none⟩ (.int .i64 q.c)).setCell ⟨g4, 5, none⟩ (.int .i64 q.vk)).setCell ⟨g4, 6, none⟩ (.int .i64 q.vi)).setCell ⟨g4, 7, none⟩ (.string q.vs)).setCell ⟨g4, 8, none⟩ (.slice P' q.l.length kp')).setCell ⟨g5, 0, none⟩ (.int .i64 p.op)).setCell ⟨g5, 1, none⟩ (.string p.tab)).setCell ⟨g5, 2, none⟩ (.string p.name)).setCell ⟨g5, 3, none⟩ (.int .i64 p.t)).setCell ⟨g5, 4, none⟩ (.int .i64 p.c)).setCell ⟨g5, 5, none⟩ (.int .i64 p.vk)).setCell ⟨g5, 6, none⟩ (.int .i64 p.vi)).setCell ⟨g5, 7, none⟩ (.string p.vs)).setCell ⟨g5, 8, none⟩ (.slice P p.l.length kp)) (g + 1) 42 #[.int .i64 0, .int .i64 0, .int .i64 0, .int .i64 0] := by
        repeat (first | with_reducible exact HR4.out | refine Blok.far ?_ (by first | exact hr5 | exact hr4) _)
      have bg : Grew w ((((((((((((((((((wc.setCell ⟨g4, 0, none⟩ (.int .i64 q.op)).setCell ⟨g4, 1, none⟩ (.string q.tab)).setCell ⟨g4, 2, none⟩ (.string q.name)).setCell ⟨g4, 3, none⟩ (.int .i64 q.t)).setCell ⟨g4, 4, none⟩ (.int .i64 q.c)).setCell ⟨g4, 5, none⟩ (.int .i64 q.vk)).setCell ⟨g4, 6, none⟩ (.int .i64 q.vi)).setCell ⟨g4, 7, none⟩ (.string q.vs)).setCell ⟨g4, 8, none⟩ (.slice P' q.l.length kp')).setCell ⟨g5, 0, none⟩ (.int .i64 p.op)).setCell ⟨g5, 1, none⟩ (.string p.tab)).setCell ⟨g5, 2, none⟩ (.string p.name)).setCell ⟨g5, 3, none⟩ (.int .i64 p.t)).setCell ⟨g5, 4, none⟩ (.int .i64 p.c)).setCell ⟨g5, 5, none⟩ (.int .i64 p.vk)).setCell ⟨g5, 6, none⟩ (.int .i64 p.vi)).setCell ⟨g5, 7, none⟩ (.string p.vs)).setCell ⟨g5, 8, none⟩ (.slice P p.l.length kp)) := by
        repeat (first | with_reducible exact HG4.out | refine Grew.setCell ?_ (by first | exact HL5.out | exact HL4.out) _)
      have hb := ed_set bz (.int .i64 q.t) (.int .i64 q.c) (.int .i64 p.t) (.int .i64 p.c)
      obtain ⟨_, r0, r1, r2, r3, _, _, _, _⟩ := ed_in hb
      exact bodyPost_ret (v := .tuple #[.agg #[.int .i64 q.t, .int .i64 q.c, .int .i64 p.t, .int .i64 p.c], .bool true]) (by simp [results, Try.results23, go_sem, r0, r1, r2, r3]) rfl ⟨rfl, grew_set4 bg (Nat.le_trans HGW.out (Nat.le_succ g)) _ _ _ _⟩
end Go.Proofs.Ytfdjnhnchibejaa

/- Layer 14: groups are parted by one column more. Condition: environments that lie in memory that is there; not more than twenty. -/
namespace Go.Proofs.Ytfdjnhnchibejaa
open Go.RowKit
attribute [local go_sem] more_cell more_frozen more_more more_setCell more_of_drew more_of_drewN lt_more le_more past_cell past_cell2 past_frozen past_frozen2 past_setCell past_setCell2 mid_cell mid_frozen mid_setCell
attribute [local go_sem ↓] Go.wp_at_zero Go.wp_at_succ

theorem mk_map {P : Program} (t : TypeId) (w : World) : (Instr.makeMap t none).run P w = .ok (.map (some w.heap.size)) (w.alloc (.map #[] 0)) := rfl
attribute [local go_sem] mk_map
theorem zero_i (w : World) : (zeroValue 3).run Try.prog w = .ok (.int .i64 0) w := by kernel_rfl
theorem split_set {w : World} {g : Nat} {a b c d : Value} (h : Blok w g 188 #[a, b, c, d]) (x y z v : Value) : Blok ((((w.setCell ⟨g, 0, none⟩ x).setCell ⟨g, 1, none⟩ y).setCell ⟨g, 2, none⟩ z).setCell ⟨g, 3, none⟩ v) g 188 #[x, y, z, v] := by
  have := (((h.set 0 x).set 1 y).set 2 z).set 3 v
  simpa using this
theorem split_in {w : World} {g : Nat} {a b c d : Value} (h : Blok w g 188 #[a, b, c, d]) : g < w.heap.size ∧ w.cell? ⟨g, 0, none⟩ = some a ∧ w.cell? ⟨g, 1, none⟩ = some b ∧ w.cell? ⟨g, 2, none⟩ = some c ∧ w.cell? ⟨g, 3, none⟩ = some d ∧ w.frozen? ⟨g, 0, none⟩ = false ∧ w.frozen? ⟨g, 1, none⟩ = false ∧ w.frozen? ⟨g, 2, none⟩ = false ∧ w.frozen? ⟨g, 3, none⟩ = false :=
  ⟨h.lt, h.cell 0, h.cell 1, h.cell 2, h.cell 3, h.thaw 0, h.thaw 1, h.thaw 2, h.thaw 3⟩
def PartF (u : World) (n gb : Nat) (E : Nat → Nat → Bool) (e : Ending) (w' : World) : Prop := e = .returned (.int .i64 (rootsN n (lst E) : Nat)) ∧ Grew u w' ∧ ∃ gf, Blok w' gb 3 (numsV n gf) ∧ ∀ j, j < n → gf j = gix E j
structure PartS (u : World) (n gb bx mb : Nat) (xc : Array Value) (E E' : Nat → Nat → Bool) (V : Nat → Vl) (j : Nat) (gf : Nat → Nat) (wr : World) : Prop where
  grew : Grew u wr
  nums : Blok wr gb 3 (numsV n gf)
  box : Blok wr bx 29 xc
  map : MapAt wr mb (mapL E E' V j)
  old : ∀ q, j ≤ q → q < n → gf q = gix E q
  new : ∀ q, q < j → gf q = gix E' q
theorem PartS.on {u : World} {n gb bx mb : Nat} {xc : Array Value} {E E' : Nat → Nat → Bool} {V : Nat → Vl} {j : Nat} {gf : Nat → Nat} {w w' : World} (s : PartS u n gb bx mb xc E E' V j gf w) (g : Grew w w') : PartS u n gb bx mb xc E E' V j gf w' :=
  ⟨s.grew.trans g, s.nums.grew g, s.box.grew g, s.map.grew g, s.old, s.new⟩
def PartAt (u : World) (n gb bx mb : Nat) (xc : Array Value) (E E' : Nat → Nat → Bool) (V : Nat → Vl) (i : Value) (wr : World) : Prop :=
  ∃ (j : Nat) (gf : Nat → Nat), j ≤ n ∧ i = .int .i64 j ∧ PartS u n gb bx mb xc E E' V j gf wr
set_option maxHeartbeats 4000000 in
set_option maxRecDepth 100000 in
theorem part_any (envs : List (List (List Vl))) (ho : EnvsOk envs) (n : Nat) (hn : envs.length = n) (hn20 : n ≤ 20) (cs : List Ex) (c : Ex) (C : Option Addr) (kc : Nat) (A : Option Addr) (ka gb : Nat) (gf : Nat → Nat) (u w : World) (hu : Grew u w) (hgu : u.heap.size ≤ gb)
    (hb : Blok w gb 3 (numsV n gf)) (hgf : ∀ j, j < n → gf j = gix (alike envs cs) j) (ra : EnvsR (PRow u) A envs) :
    Calls Try.prog 112 #[.slice (some ⟨gb, 0, none⟩) n n, .slice A n ka, exV c C kc] w (PartF u n gb (alike envs (cs ++ [c]))) := by
  have HE := Lib.hid (alike_eqv envs cs)
  have HE' := Lib.hid (alike_eqv envs (cs ++ [c]))
  have HK := Lib.hid (alike_snoc envs cs c)
  have HVo : Hid (∀ q, VlOk (valAt envs c q)) := Lib.hid fun q => by
    unfold valAt
    refine atE_ok ?_ _ _
    by_cases h : q < envs.length
    · rw [List.getD_eq_getElem?_getD, List.getElem?_eq_getElem h]
      exact ho.2 _ (List.getElem_mem h)
    · rw [List.getD_eq_getElem?_getD, List.getElem?_eq_none (by omega)]
      exact ⟨by simp, fun v hv => by simp at hv⟩
  have HEnv : Hid (∀ (j : Nat), j < n → ∃ b o B k m, A = some ⟨b, o, none⟩ ∧ ∀ W, Grew u W → b < W.heap.size ∧ W.cell? ⟨b, o + j, none⟩ = some (.slice B m k) ∧ Gives Try.prog 178 #[.slice B m k, .int .i64 c.t, .int .i64 c.c] W (vlV (valAt envs c j))) := Lib.hid fun j hj => by
    obtain ⟨b, o, B, k, hA, hb, hc, _, hr⟩ := envsR_at ra (show j < envs.length by omega)
    refine ⟨b, o, B, k, _, hA, fun W hW => ⟨Nat.lt_of_lt_of_le hb hW.size, (hW.cell (a := ⟨b, o + j, none⟩) hb).trans hc, ?_⟩⟩
    have h2 := at_any envs[j] (ho.2 _ (List.getElem_mem (by omega))) B k c.t c.c W (hr.grew hW)
    have e : envs.getD j [] = envs[j] := by rw [List.getD_eq_getElem?_getD, List.getElem?_eq_getElem (by omega)]; rfl
    unfold valAt
    rw [e]
    exact h2
  clear ra ho hn
  generalize alike envs cs = E at *
  generalize alike envs (cs ++ [c]) = E' at *
  generalize valAt envs c = V at *
  have hgl := hb.lt
  have HU := Lib.hid hu
  have HB := Lib.hid hb
  have HGf := Lib.hid hgf
  clear hu hb hgf
  obtain ⟨xc, hxc⟩ : ∃ xc, (exC c C kc).toArray = xc := ⟨_, rfl⟩
  have hx3 : xc[3]? = some (.int .i64 c.t) := by rw [← hxc]; rfl
  have hx4 : xc[4]? = some (.int .i64 c.c) := by rw [← hxc]; rfl
  have HS0 : Hid (PartS u n gb w.heap.size (w.heap.size + 1) xc E E' V 0 gf ((w.alloc (.cells xc 29)).alloc (.map #[] 0))) := Lib.hid ⟨(HU.out.alloc _).alloc _, (HB.out.alloc _).alloc _, (Blok.new _ _ _ _ rfl).alloc _, map_new _ _ (by simp), fun q _ hq => HGf.out q hq, fun q hq => by omega⟩
  rw [← hxc] at HS0
  have HX3 := Lib.hid hx3
  have HX4 := Lib.hid hx4
  rw [← hxc] at HX3 HX4
  have hus : u.heap.size ≤ w.heap.size := HU.out.size
  clear HU HB HGf hx3 hx4 hxc
  unfold exV
  go_enter Try.func112, Try.ntmps112
  go_wp2
  go_loopw [16] (fun i wr => PartAt u n gb w.heap.size (w.heap.size + 1) (exC c C kc).toArray E E' V i wr) (fun i _ => n - (intOf i).toNat)
  case atStart => exact ⟨0, gf, Nat.zero_le _, rfl, HS0.out⟩
  case round =>
    obtain ⟨j, gf, hj, rfl, s⟩ := hrel
    have HS := Lib.hid s
    clear s HS0
    by_cases hjn : j < n
    · obtain ⟨b, o, B, k, m, rfl, hev⟩ := HEnv.out j hjn
      have HEv : Hid (∀ W, Grew wr W → Gives Try.prog 178 #[.slice B m k, .int .i64 c.t, .int .i64 c.c] W (vlV (V j))) := Lib.hid fun W hW => (hev W (HS.out.grew.trans hW)).2.2
      obtain ⟨hb1, hc1, _⟩ := hev wr HS.out.grew
      clear hev HEnv
      have hg0 : gf j = gix E j := HS.out.old j (Nat.le_refl _) hjn
      have HG0 := Lib.hid hg0
      have HVj := Lib.hid (HVo.out j)
      have HKs := Lib.hid (mapL_keys (E := E) (E' := E') (V := V) (m := j) (show n ≤ 1000 by omega) hj HVo.out)
      have HKl := Lib.hid (keyS_of (gix E j) (V j) (by have := gix_le E j; omega) (HVo.out j))
      have HHit := Lib.hid (fun v => mapL_hit (v := v) (m := j) HE.out HE'.out HK.out)
      have HMiss := Lib.hid (mapL_miss (m := j) HE.out HE'.out HK.out)
      have HIn := Lib.hid (mapL_in (E := E) (E' := E') (V := V) (m := j))
      have HOut := Lib.hid (mapL_out (E := E) (E' := E') (V := V) (m := j))
      have HLen := Lib.hid (mapL_len (E := E) (E' := E') (V := V) j)
      have hgj := gix_le E j
      have hgj' := gix_le E' j
      have HR : Hid (lst E' j = j → gix E' j = rootsN j (lst E')) := Lib.hid fun e => by unfold gix; rw [e]
      clear hg0
      generalize hx : V j = x at *
      clear hx
      generalize hgg : gix E j = g at *
      clear hgg
      unfold vlV at HEv
      unfold keyS at *
      go_upto_region 5 with fail
      go_cut [10] (fun v wx => ∃ sb, v = .pointer (some ⟨sb, 0, none⟩) ∧ Grew wr wx ∧ Blok wx sb 188 #[.int .i64 g, .int .i64 x.k, .int .i64 x.i, .string x.s])
      case first =>
        refine wp_region_S (fun W => Grew wr W) (by kernel_rfl) ?_
        refine held_take 0 (v := ?_) rfl (by kernel_rfl) (by kernel_rfl) (by kernel_rfl) (fun _ _ _ h => h) (by rfl) ?_ (Grew.refl _).drew ?_
        rotate_left
        · (intro W hW; have q0 := (HS.out.nums.grew hW).cell j; rw [numsV_at n gf j hjn, HG0.out] at q0; have z0 := (HS.out.nums.grew hW).lt; go_simp; with_reducible rfl)
        refine held_take 1 (v := ?_) rfl (by kernel_rfl) (by kernel_rfl) (by kernel_rfl) (fun _ _ _ h => h) (by rfl) ?_ (Grew.refl _).drew ?_
        rotate_left
        · (intro W hW; have q0 := (HS.out.nums.grew hW).cell j; rw [numsV_at n gf j hjn, HG0.out] at q0; have z0 := (HS.out.nums.grew hW).lt; go_simp; with_reducible rfl)
        refine held_take 2 (v := ?_) rfl (by kernel_rfl) (by kernel_rfl) (by kernel_rfl) (fun _ _ _ h => h) (by rfl) ?_ (Grew.refl _).drew ?_
        rotate_left
        · (intro W hW; have q0 := (HS.out.nums.grew hW).cell j; rw [numsV_at n gf j hjn, HG0.out] at q0; have z0 := (HS.out.nums.grew hW).lt; go_simp; with_reducible rfl)
        refine held_take 3 (v := ?_) rfl (by kernel_rfl) (by kernel_rfl) (by kernel_rfl) (fun _ _ _ h => h) (by rfl) ?_ (Grew.refl _).drew ?_
        rotate_left
        · (intro W hW; have q0 := (HS.out.nums.grew hW).cell j; rw [numsV_at n gf j hjn, HG0.out] at q0; have z0 := (HS.out.nums.grew hW).lt; go_simp; with_reducible rfl)
        refine held_norm (a' := ?_) ?_ ?_
        rotate_left
        · (go_simp; with_reducible rfl)
        refine held_take 4 (v := ?_) rfl (by kernel_rfl) (by kernel_rfl) (by kernel_rfl) (fun _ _ _ h => h) (by rfl) ?_ (Grew.refl _).drew ?_
        rotate_left
        · (intro W hW; have q1 := (HS.out.box.grew hW).cell 3; rw [HX3.out] at q1; have q2 := (HS.out.box.grew hW).cell 4; rw [HX4.out] at q2; have z1 := (HS.out.box.grew hW).lt; go_simp; with_reducible rfl)
        refine held_take 5 (v := ?_) rfl (by kernel_rfl) (by kernel_rfl) (by kernel_rfl) (fun _ _ _ h => h) (by rfl) ?_ (Grew.refl _).drew ?_
        rotate_left
        · (intro W hW; have q1 := (HS.out.box.grew hW).cell 3; rw [HX3.out] at q1; have q2 := (HS.out.box.grew hW).cell 4; rw [HX4.out] at q2; have z1 := (HS.out.box.grew hW).lt; go_simp; with_reducible rfl)
        refine held_take 6 (v := ?_) rfl (by kernel_rfl) (by kernel_rfl) (by kernel_rfl) (fun _ _ _ h => h) (by rfl) ?_ (Grew.refl _).drew ?_
        rotate_left
        · (intro W hW; have q1 := (HS.out.box.grew hW).cell 3; rw [HX3.out] at q1; have q2 := (HS.out.box.grew hW).cell 4; rw [HX4.out] at q2; have z1 := (HS.out.box.grew hW).lt; go_simp; with_reducible rfl)
        refine held_take 7 (v := ?_) rfl (by kernel_rfl) (by kernel_rfl) (by kernel_rfl) (fun _ _ _ h => h) (by rfl) ?_ (Grew.refl _).drew ?_
        rotate_left
        · (intro W hW; have q1 := (HS.out.box.grew hW).cell 3; rw [HX3.out] at q1; have q2 := (HS.out.box.grew hW).cell 4; rw [HX4.out] at q2; have z1 := (HS.out.box.grew hW).lt; go_simp; with_reducible rfl)
        refine held_take 8 (v := ?_) rfl (by kernel_rfl) (by kernel_rfl) (by kernel_rfl) (fun _ _ _ h => h) (by rfl) ?_ (Grew.refl _).drew ?_
        rotate_left
        · (intro W hW; have q1 := (HS.out.box.grew hW).cell 3; rw [HX3.out] at q1; have q2 := (HS.out.box.grew hW).cell 4; rw [HX4.out] at q2; have z1 := (HS.out.box.grew hW).lt; go_simp; with_reducible rfl)
        refine held_norm (a' := ?_) ?_ ?_
        rotate_left
        · (go_simp; with_reducible rfl)
        refine held_two 9 11 (by kernel_rfl) rfl rfl (by rfl) (by rfl) (fun K hK => ?_) (fun K hK => ?_)
        · go_simp
          go_wp2_with (go_at_call 178; (with_reducible refine (Gives.grows (HEv.out _ (Grew.refl _).drew)).mono ?_); rintro e w2 ⟨rfl, hg2⟩)
          have hgw := (Grew.refl wr).drew.trans hg2
          refine hK.out _ _ hgw ?_
          clear hK K
          refine held_take 10 (v := ?_) rfl (by kernel_rfl) (by kernel_rfl) (by kernel_rfl) (fun _ _ _ h => h) (by rfl) ?_ hgw ?_
          rotate_left
          · (intro W hW; go_simp; with_reducible rfl)
          refine held_norm (a' := ?_) ?_ ?_
          rotate_left
          · (go_simp; with_reducible rfl)
          refine held_call 11 (by kernel_rfl) rfl (by rfl) (fun K hK => ?_)
          go_simp
          go_wp2_with fail
          refine hK.out _ _ (hgw.alloc _) ?_
          clear hK K
          have HBf : Hid (Blok (w2.alloc (.cells #[.int .i64 g, .int .i64 x.k, .int .i64 x.i, .string x.s] 188)) w2.heap.size 188 #[.int .i64 g, .int .i64 x.k, .int .i64 x.i, .string x.s]) := Lib.hid (Blok.new _ _ _ _ rfl)
          have HGf : Hid (Grew wr (w2.alloc (.cells #[.int .i64 g, .int .i64 x.k, .int .i64 x.i, .string x.s] 188))) := Lib.hid (hgw.alloc _)
          refine held_call 12 (by kernel_rfl) rfl (by rfl) (fun K hK => ?_)
          go_simp
          go_wp2_with fail
          refine hK.out _ _ HGf.out ?_
          clear hK K
          refine held_done (by kernel_rfl) ?_
          go_wp2_with fail
          go_meet
          exact ⟨_, rfl, HGf.out, HBf.out⟩
        · have hgw : Grew wr (wr.alloc (.cells #[.int .i64 0, .int .i64 0, .int .i64 0, .string ⟨#[]⟩] 188)).drew := ((Grew.refl wr).alloc _).drew
          go_simp
          go_wp2_with fail
          refine hK.out _ _ hgw ?_
          clear hK K
          refine held_call 9 (by kernel_rfl) rfl (by rfl) (fun K hK => ?_)
          go_simp
          go_wp2_with (go_at_call 178; (with_reducible refine (Gives.grows (HEv.out _ hgw)).mono ?_); rintro e w2 ⟨rfl, hg2⟩)
          have hbk : Blok w2 wr.heap.size 188 #[.int .i64 0, .int .i64 0, .int .i64 0, .string ⟨#[]⟩] := ((Blok.new _ _ _ _ rfl).grew (Grew.refl _).drew).grew hg2
          have hgw2 := hgw.trans hg2
          refine hK.out _ _ hgw2 ?_
          clear hK K
          refine held_take 10 (v := ?_) rfl (by kernel_rfl) (by kernel_rfl) (by kernel_rfl) (fun _ _ _ h => h) (by rfl) ?_ hgw2 ?_
          rotate_left
          · (intro W hW; go_simp; with_reducible rfl)
          refine held_norm (a' := ?_) ?_ ?_
          rotate_left
          · (go_simp; with_reducible rfl)
          have HBf := Lib.hid (split_set hbk (.int .i64 g) (.int .i64 x.k) (.int .i64 x.i) (.string x.s))
          obtain ⟨q0, q1, q2, q3, q4, z1, z2, z3, z4⟩ := split_in hbk
          have HGf := Lib.hid (grew_set4 hgw2 (Nat.le_refl wr.heap.size) (.int .i64 g) (.int .i64 x.k) (.int .i64 x.i) (.string x.s))
          clear hbk
          refine held_call 12 (by kernel_rfl) rfl (by rfl) (fun K hK => ?_)
          go_simp
          go_wp2_with fail
          refine hK.out _ _ HGf.out ?_
          clear hK K
          refine held_done (by kernel_rfl) ?_
          go_wp2_with fail
          go_meet
          exact ⟨_, rfl, HGf.out, HBf.out⟩
      case rest =>
        obtain ⟨sb, rfl, hgx, hbx⟩ := hcut
        have HSx := Lib.hid (HS.out.on hgx)
        obtain ⟨q0, q1, q2, q3, q4, _⟩ := split_in hbx
        obtain ⟨kl, hkl⟩ := HKl.out
        have HKk := Lib.hid hkl
        have hlen := map_len Try.underlying185 HSx.out.map 3
        rw [HLen.out] at hlen
        have hrj := rootsN_le j (lst E')
        have z5 := HSx.out.nums.thaw j
        have c5 := HSx.out.nums.cell j
        rw [numsV_at n gf j hjn] at c5
        have l5 := HSx.out.nums.lt
        rcases map_look split_law Try.underlying185 HSx.out.map HKs.out hkl (zero_i wc) with ⟨hno, hrun⟩ | ⟨v, hmem, hrun⟩
        · have hl := HMiss.out hno
          have HNo := Lib.hid hno
          have HI2 := Lib.hid (HIn.out hl)
          have HR2 := Lib.hid (HR.out hl)
          clear hno hl hkl hbx
          go_wp2_with (at_mapUpdate; refine wpList_mput rfl (.tmp 42) (.tmp 43) (.tmp 44) 185 188 3 rfl split_law Try.underlying185 (w.heap.size + 1) (mapL E E' V j) rfl HSx.out.map HKs.out _ _ kl rfl rfl HKk.out HNo.out ?_)
          intro w2 hm2 hg2
          have HS2 : Hid (PartS u n gb w.heap.size (w.heap.size + 1) (exC c C kc).toArray E E' V (j + 1) (fun i => if i = j then gix E' j else gf i) (w2.setCell ⟨gb, j, none⟩ (.int .i64 (gix E' j : Nat)))) := Lib.hid (by
            have a := HSx.out
            refine ⟨(a.grew.grown hg2 (fun k hk => ?_)).setCell hgu _, ?_, (a.box.grown hg2 (fun e => ?_)).far (p := ⟨gb, j, none⟩) (fun e => ?_) _, ?_, fun q h1 h2 => ?_, fun q h1 => ?_⟩
            · injection hk with hk
              omega
            · rw [← numsV_set]
              exact (a.nums.grown hg2 (fun e => by injection e with e; omega)).set j _
            · injection e with e
              omega
            · have e : w.heap.size = gb := e
              omega
            · rw [HI2.out]
              rw [HR2.out]
              exact hm2.turns ((Turns.refl w2 gb).set j _) (by omega)
            · show (if q = j then gix E' j else gf q) = _
              rw [if_neg (by omega)]
              exact a.old q (by omega) h2
            · show (if q = j then gix E' j else gf q) = _
              by_cases e : q = j
              · rw [if_pos e, e]
              · rw [if_neg e]
                exact a.new q (by omega))
          rw [HR2.out] at HS2
          have z6 := (HSx.out.nums.grown hg2 (fun e => by injection e with e; omega)).thaw j
          have c6 := (HSx.out.nums.grown hg2 (fun e => by injection e with e; omega)).cell j
          rw [numsV_at n gf j hjn] at c6
          have l6 := (HSx.out.nums.grown hg2 (fun e => by injection e with e; omega)).lt
          clear hm2 hg2 HSx z5 c5 l5 q0 q1 q2 q3 q4
          go_wp2
          exact ⟨⟨j + 1, _, by omega, by go_num, HS2.out⟩, by simp only [intOf]; omega⟩
        · obtain ⟨rfl, hl⟩ := HHit.out v hmem
          have HO2 := Lib.hid (HOut.out hl)
          have HS2 : Hid (PartS u n gb w.heap.size (w.heap.size + 1) (exC c C kc).toArray E E' V (j + 1) (fun i => if i = j then gix E' j else gf i) (wc.setCell ⟨gb, j, none⟩ (.int .i64 (gix E' j : Nat)))) := Lib.hid (by
            have a := HSx.out
            refine ⟨a.grew.setCell hgu _, ?_, a.box.far (p := ⟨gb, j, none⟩) (fun e => ?_) _, ?_, fun q h1 h2 => ?_, fun q h1 => ?_⟩
            · rw [← numsV_set]
              exact a.nums.set j _
            · have e : w.heap.size = gb := e
              omega
            · rw [HO2.out]
              exact a.map.turns ((Turns.refl wc gb).set j _) (by omega)
            · show (if q = j then gix E' j else gf q) = _
              rw [if_neg (by omega)]
              exact a.old q (by omega) h2
            · show (if q = j then gix E' j else gf q) = _
              by_cases e : q = j
              · rw [if_pos e, e]
              · rw [if_neg e]
                exact a.new q (by omega))
          clear hmem hl HSx hkl hbx
          go_wp2
          exact ⟨⟨j + 1, _, by omega, by go_num, HS2.out⟩, by simp only [intOf]; omega⟩
    · obtain rfl : j = n := by omega
      have hlen := map_len Try.underlying185 HS.out.map 3
      rw [mapL_len] at hlen
      have HF : Hid (PartF u j gb E' (.returned (.int .i64 (rootsN j (lst E') : Nat))) wr) := Lib.hid ⟨rfl, HS.out.grew, gf, HS.out.nums, HS.out.new⟩
      have hrj := rootsN_le j (lst E')
      clear HS
      generalize rootsN j (lst E') = m at *
      go_wp2
      go_ret
      exact HF.out
end Go.Proofs.Ytfdjnhnchibejaa

/- Slices of numbers in a slice, each in a block of its own. No condition. -/
namespace Go.Proofs.Ytfdjnhnchibejaa
open Go.RowKit

def nL (l : List Nat) : List Value := l.map fun (a : Nat) => Value.int .i64 (a : Int)
theorem nL_len (l : List Nat) : (nL l).length = l.length := by simp [nL]
theorem nL_snoc (l : List Nat) (x : Nat) : nL l ++ [.int .i64 x] = nL (l ++ [x]) := by simp [nL]
theorem nL_one (l : List Nat) : ∀ u ∈ nL l, u.oneCell' = true := by
  intro u hu
  simp only [nL, List.mem_map] at hu
  obtain ⟨_, _, rfl⟩ := hu
  rfl
theorem nL_at {l : List Nat} {i : Nat} (h : i < l.length) : (nL l)[i]? = some (.int .i64 l[i]) := by simp [nL, h]
theorem own_aside2 {w : World} {base : Nat} {e : TypeId} {size : Nat} {v : Value} {n : Nat} {xs : List Value} {p : Addr} (h : w.ownsRow base e size v n xs) (hg : ∀ q, v.ownBlock = some q → q ≠ p.block) (u : Value) : (w.setCell p u).ownsRow base e size v n xs := by
  obtain ⟨hl, h⟩ := h
  refine ⟨hl, ?_⟩
  rcases h with h | ⟨q, cap, cur, rfl, hb, hh, hq⟩
  · exact Or.inl h
  · exact Or.inr ⟨q, cap, cur, rfl, hb, Blok.far (t := e) (cs := cur) hh (hg q rfl) u, hq⟩
/-- Slices of a slice of one's own: each a row of one's own, no two in one block. -/
structure Nest (w : World) (bo bi : Nat) (A : Option Addr) (cap : Nat) (vs : List Value) (ll : List (List Nat)) : Prop where
  len : vs.length = ll.length
  outer : w.ownsRow bo 38 1 (.slice A ll.length cap) ll.length vs
  inner : ∀ (j : Nat) (v : Value) (l : List Nat), vs[j]? = some v → ll[j]? = some l → (∃ B c, v = .slice B l.length c) ∧ w.ownsRow bi 3 1 v l.length (nL l)
  apart : ∀ (j k : Nat) (v v' : Value), j ≠ k → vs[j]? = some v → vs[k]? = some v' → ∀ b, v.ownBlock = some b → v'.ownBlock ≠ some b
theorem Nest.nil (w : World) (bo bi cap g : Nat) (h : w.ownsRow bo 38 1 (.slice (some ⟨g, 0, none⟩) 0 cap) 0 []) : Nest w bo bi (some ⟨g, 0, none⟩) cap [] [] :=
  ⟨rfl, h, fun j v l hv => by simp at hv, fun j k v v' _ hv => by simp at hv⟩
theorem Nest.none (w : World) (bo bi : Nat) : Nest w bo bi .none 0 [] [] :=
  ⟨rfl, own_none _ _ _ _, fun j v l hv => by simp at hv, fun j k v v' _ hv => by simp at hv⟩
theorem Nest.grew {w w' : World} {bo bi cap : Nat} {A : Option Addr} {vs : List Value} {ll : List (List Nat)} (h : Nest w bo bi A cap vs ll) (g : Grew w w') : Nest w' bo bi A cap vs ll := by
  obtain ⟨x, rfl⟩ := g
  exact ⟨h.len, own_more h.outer x, fun j v l h1 h2 => ⟨(h.inner j v l h1 h2).1, own_more (h.inner j v l h1 h2).2 x⟩, h.apart⟩
theorem own_keep {w w' : World} {base : Nat} {e : TypeId} {size : Nat} {v : Value} {n : Nat} {xs : List Value} {g h : Nat} (ho : w.ownsRow base e size v n xs) (k : Keep2 w w' g h) (hg : g < base) (hh : h < base) : w'.ownsRow base e size v n xs := by
  have hlt := own_lt ho
  have hbs := own_base ho
  obtain ⟨hl, ho⟩ := ho
  refine ⟨hl, ?_⟩
  rcases ho with ho | ⟨q, cap, cur, rfl, hb, hq, hrest⟩
  · exact Or.inl ho
  · have h1 := hlt q rfl
    have h2 := hbs q rfl
    exact Or.inr ⟨q, cap, cur, rfl, hb, by rw [k.block q h1 (by omega) (by omega)]; exact hq, hrest⟩
theorem Nest.keep {w w' : World} {bo bi cap : Nat} {A : Option Addr} {vs : List Value} {ll : List (List Nat)} {g h : Nat} (n : Nest w bo bi A cap vs ll) (k : Keep2 w w' g h) (h1 : g < bo ∧ h < bo) (h2 : g < bi ∧ h < bi) : Nest w' bo bi A cap vs ll :=
  ⟨n.len, own_keep n.outer k h1.1 h1.2, fun j v l hv hl => ⟨(n.inner j v l hv hl).1, own_keep (n.inner j v l hv hl).2 k h2.1 h2.2⟩, n.apart⟩
/-- A cell that lies in another block is written. -/
theorem Nest.far {w : World} {bo bi cap : Nat} {A : Option Addr} {vs : List Value} {ll : List (List Nat)} (n : Nest w bo bi A cap vs ll) {p : Addr} (h1 : p.block < bi) (h2 : ∀ b, (Value.slice A ll.length cap).ownBlock = some b → b ≠ p.block) (u : Value) : Nest (w.setCell p u) bo bi A cap vs ll :=
  ⟨n.len, own_aside2 n.outer h2 u, fun j v l hv hl => ⟨(n.inner j v l hv hl).1, ownsRow_setCell_below (n.inner j v l hv hl).2 h1 u⟩, n.apart⟩
theorem type_apart {w : World} {base base' size size' n n' : Nat} {e e' : TypeId} {v v' : Value} {xs xs' : List Value} (h : w.ownsRow base e size v n xs) (h' : w.ownsRow base' e' size' v' n' xs') (he : e ≠ e') : ∀ k, v.ownBlock = some k → v'.ownBlock ≠ some k := by
  intro k hk hk'
  obtain ⟨_, h⟩ := h
  obtain ⟨_, h'⟩ := h'
  rcases h with ⟨rfl, _⟩ | ⟨q, cap, cur, rfl, _, hq, _⟩
  · cases hk
  · rcases h' with ⟨rfl, _⟩ | ⟨q', cap', cur', rfl, _, hq', _⟩
    · cases hk'
    · injection hk with hk
      injection hk' with hk'
      subst hk
      have hk' : q' = q := hk'
      subst hk'
      rw [hq] at hq'
      injection hq' with hq'
      injection hq' with _ e1 _
      exact he e1
/-- A slice is put behind. -/
theorem Nest.snoc {w w' : World} {bo bi cap cap' : Nat} {A A' : Option Addr} {vs : List Value} {ll : List (List Nat)} {v : Value} {l : List Nat} (n : Nest w bo bi A cap vs ll)
    (ho : w'.ownsRow bo 38 1 (.slice A' (ll.length + 1) cap') (ll.length + 1) (vs ++ [v])) (hg : w.grownBy w' (Value.slice A ll.length cap).ownBlock)
    (hv : ∃ B c, v = .slice B l.length c) (hr : w.ownsRow bi 3 1 v l.length (nL l)) (ha : ∀ (j : Nat) v', vs[j]? = some v' → ∀ b, v'.ownBlock = some b → v.ownBlock ≠ some b) : Nest w' bo bi A' cap' (vs ++ [v]) (ll ++ [l]) := by
  have hk : ∀ {x : Value} {m : Nat} {xs : List Value}, w.ownsRow bi 3 1 x m xs → w'.ownsRow bi 3 1 x m xs := fun h => own_grown h hg fun k hk e => type_apart h n.outer (by decide) k hk e.symm
  refine ⟨by simp [n.len], by simpa using ho, fun j x m hx hm => ?_, fun j k x x' hjk hx hx' => ?_⟩
  · rcases Nat.lt_or_ge j vs.length with hj | hj
    · rw [List.getElem?_append_left hj] at hx
      rw [List.getElem?_append_left (by rw [← n.len]; exact hj)] at hm
      exact ⟨(n.inner j x m hx hm).1, hk (n.inner j x m hx hm).2⟩
    · have hj0 : j = vs.length := by
        rcases Nat.lt_or_ge vs.length j with h | h
        · rw [List.getElem?_eq_none (by simp; omega)] at hx; cases hx
        · omega
      subst hj0
      rw [List.getElem?_concat_length] at hx
      rw [n.len, List.getElem?_concat_length] at hm
      injection hx with hx
      injection hm with hm
      subst hx hm
      exact ⟨hv, hk hr⟩
  · rcases Nat.lt_or_ge j vs.length with hj | hj
    · rw [List.getElem?_append_left hj] at hx
      rcases Nat.lt_or_ge k vs.length with h | h
      · rw [List.getElem?_append_left h] at hx'
        exact n.apart j k x x' hjk hx hx'
      · have hk0 : k = vs.length := by
          rcases Nat.lt_or_ge vs.length k with h | h
          · rw [List.getElem?_eq_none (by simp; omega)] at hx'; cases hx'
          · omega
        subst hk0
        rw [List.getElem?_concat_length] at hx'
        injection hx' with hx'
        subst hx'
        exact ha j x hx
    · have hj0 : j = vs.length := by
        rcases Nat.lt_or_ge vs.length j with h | h
        · rw [List.getElem?_eq_none (by simp; omega)] at hx; cases hx
        · omega
      subst hj0
      rw [List.getElem?_concat_length] at hx
      injection hx with hx
      subst hx
      have hkl : k < vs.length := by
        rcases Nat.lt_or_ge k vs.length with h | h
        · exact h
        · rw [List.getElem?_eq_none (by simp; omega)] at hx'; cases hx'
      rw [List.getElem?_append_left hkl] at hx'
      exact fun b hb hb' => ha k x' hx' b hb' hb
/-- One of the slices is put longer: in its own block or in a new one; and the slice's header is stored. -/
theorem Nest.put {w w1 : World} {bo bi cap j g : Nat} {vs : List Value} {ll : List (List Nat)} {v v' : Value} {l : List Nat} {x : Nat} (n : Nest w bo bi (some ⟨g, 0, .none⟩) cap vs ll) (hj : vs[j]? = some v) (hl : ll[j]? = some l)
    (ho : w1.ownsRow bi 3 1 v' (l.length + 1) (nL l ++ [.int .i64 x])) (hf : ∃ B c, v' = .slice B (l.length + 1) c) (hg : w.grownBy w1 v.ownBlock) (hb : v'.ownBlock = v.ownBlock ∨ v'.ownBlock = some w.heap.size) :
    Nest (w1.setCell ⟨g, j, .none⟩ v') bo bi (some ⟨g, 0, .none⟩) cap (vs.set j v') (ll.set j (l ++ [x])) := by
  have hin := (n.inner j v l hj hl).2
  have hout1 : w1.ownsRow bo 38 1 (.slice (some ⟨g, 0, .none⟩) ll.length cap) ll.length vs := own_grown n.outer hg fun k hk e => type_apart n.outer hin (by decide) k hk e.symm
  have hjl : j < vs.length := (List.getElem?_eq_some_iff.1 hj).1
  have hjl' : j < ll.length := (List.getElem?_eq_some_iff.1 hl).1
  refine ⟨by simp [n.len], by rw [List.length_set]; exact (hout1.stored j v').1, fun k y m hy hm => ?_, fun a b y y' hab hy hy' => ?_⟩
  · by_cases hk : k = j
    · subst hk
      rw [List.getElem?_set_self hjl] at hy
      rw [List.getElem?_set_self hjl'] at hm
      injection hy with hy
      injection hm with hm
      subst hy hm
      have h1 : w1.ownsRow bi 3 1 v' (l ++ [x]).length (nL (l ++ [x])) := by rw [List.length_append, List.length_singleton, ← nL_snoc]; exact ho
      refine ⟨by rw [List.length_append, List.length_singleton]; exact hf, ?_⟩
      exact own_aside2 h1 (fun b hb e => type_apart hout1 h1 (by decide) g rfl (by rw [hb, e])) v'
    · rw [List.getElem?_set_ne (Ne.symm hk)] at hy hm
      have h0 := n.inner k y m hy hm
      have h1 : w1.ownsRow bi 3 1 y m.length (nL m) := own_grown h0.2 hg fun b hb e => n.apart k j y v hk hy hj b hb e.symm
      exact ⟨h0.1, own_aside2 h1 (fun b hb e => type_apart hout1 h1 (by decide) g rfl (by rw [hb, e])) v'⟩
  · by_cases ha : a = j
    · subst ha
      rw [List.getElem?_set_self hjl] at hy
      injection hy with hy
      subst hy
      rw [List.getElem?_set_ne hab] at hy'
      intro q hq hq'
      rcases hb with e | e
      · exact n.apart a b v y' hab hj hy' q (by rw [← e]; exact hq) hq'
      · have hl' : b < ll.length := by rw [← n.len]; exact (List.getElem?_eq_some_iff.1 hy').1
        have := own_lt (n.inner b y' _ hy' (List.getElem?_eq_getElem hl')).2 q hq'
        rw [e] at hq
        injection hq with hq
        omega
    · rw [List.getElem?_set_ne (Ne.symm ha)] at hy
      by_cases hb' : b = j
      · subst hb'
        rw [List.getElem?_set_self hjl] at hy'
        injection hy' with hy'
        subst hy'
        intro q hq hq'
        rcases hb with e | e
        · exact n.apart a b y v hab hy hj q hq (by rw [← e]; exact hq')
        · have hl' : a < ll.length := by rw [← n.len]; exact (List.getElem?_eq_some_iff.1 hy).1
          have := own_lt (n.inner a y _ hy (List.getElem?_eq_getElem hl')).2 q hq
          rw [e] at hq'
          injection hq' with hq'
          omega
      · rw [List.getElem?_set_ne (Ne.symm hb')] at hy'
        exact n.apart a b y y' hab hy hy'
/-- Slices in a slice, to be read. -/
def NestR (w : World) (A : Option Addr) (ll : List (List Nat)) : Prop := ∃ vs, vs.length = ll.length ∧ Row w A vs ∧ ∀ (j : Nat) (v : Value) (l : List Nat), vs[j]? = some v → ll[j]? = some l → ∃ B c, v = .slice B l.length c ∧ Row w B (nL l)
theorem Nest.read {w : World} {bo bi cap : Nat} {A : Option Addr} {vs : List Value} {ll : List (List Nat)} (n : Nest w bo bi A cap vs ll) : NestR w A ll := by
  obtain ⟨A', c', e, h⟩ := own_row n.outer
  injection e with e1 _ _
  subst e1
  refine ⟨vs, n.len, h, fun j v l hv hl => ?_⟩
  obtain ⟨B', c2, e2, h2⟩ := own_row (n.inner j v l hv hl).2
  exact ⟨B', c2, e2, h2⟩
theorem NestR.grew {w w' : World} {A : Option Addr} {ll : List (List Nat)} (h : NestR w A ll) (g : Grew w w') : NestR w' A ll := by
  obtain ⟨vs, h1, h2, h3⟩ := h
  refine ⟨vs, h1, h2.grew g, fun j v l hv hl => ?_⟩
  obtain ⟨B, c, e, h4⟩ := h3 j v l hv hl
  exact ⟨B, c, e, h4.grew g⟩
theorem NestR.at {w : World} {A : Option Addr} {ll : List (List Nat)} (h : NestR w A ll) {j : Nat} (hj : j < ll.length) : ∃ b o B c, A = some ⟨b, o, none⟩ ∧ b < w.heap.size ∧ w.cell? ⟨b, o + j, none⟩ = some (.slice B ll[j].length c) ∧ Row w B (nL ll[j]) := by
  obtain ⟨vs, h1, h2, h3⟩ := h
  have hv : j < vs.length := by omega
  obtain ⟨B, c, e, h4⟩ := h3 j vs[j] ll[j] (List.getElem?_eq_getElem hv) (List.getElem?_eq_getElem hj)
  rcases h2 with rfl | ⟨b, o, rfl, hb, hc⟩
  · simp at hv
  · exact ⟨b, o, B, c, rfl, hb, by rw [← e]; exact hc j _ (List.getElem?_eq_getElem hv), h4⟩
theorem row_nat {w : World} {B : Option Addr} {l : List Nat} (h : Row w B (nL l)) {k : Nat} (hk : k < l.length) : ∃ b o, B = some ⟨b, o, none⟩ ∧ b < w.heap.size ∧ w.cell? ⟨b, o + k, none⟩ = some (.int .i64 l[k]) := by
  rcases h with h | ⟨b, o, rfl, hb, hc⟩
  · have := nL_len l
    rw [h] at this
    simp at this
    omega
  · exact ⟨b, o, rfl, hb, hc k _ (nL_at hk)⟩
theorem infoSl : (Try.prog.info? 38).map (fun i => (i.zero, i.size, i.bytes)) = some (some (.slice none 0 0), 1, 24) := by kernel_rfl
/-- append onto a row of one's own from whatever block on, and where the new one lies. -/
theorem wpList_appN {P : Program} {w : World} {ops : Array Oper} {rest : List Oper} {o : Oper} {a : Act} {Q : Exit → Act → World → Prop} (hgd : o.guard = none) (s x : Operand) (t e : TypeId)
    (ho : o.op = .call { callee := .builtin .append, args := #[s, x], argTypes := #[t, t] })
    (base : Nat) (z : Value) (bytes : Nat) (ht : P.underlying t = some (.slice e)) (hi : (P.info? e).map (fun i => (i.zero, i.size, i.bytes)) = some (some z, 1, bytes)) (hzs : z.cells.size = 1) (hb8 : bytes ≤ 256)
    (v : Value) (n : Nat) (xs : List Value) (hs : a.eval s = v) (hown : w.ownsRow base e 1 v n xs)
    (A : Option Addr) (m c : Nat) (news : List Value) (hx : a.eval x = .slice A m c) (hl : news.length = m) (hr : Row w A news) (h1 : ∀ u ∈ news, u.oneCell' = true)
    (hsm : n + m ≤ 549755813888) (hg : base ≤ w.heap.size)
    (h : ∀ A' c' w', w'.ownsRow base e 1 (.slice A' (n + m) c') (n + m) (xs ++ news) → w.grownBy w' v.ownBlock → ((Value.slice A' (n + m) c').ownBlock = v.ownBlock ∨ (Value.slice A' (n + m) c').ownBlock = some w.heap.size) → wpList P ops Q rest (a.put o.dst (.slice A' (n + m) c')) w') : wpList P ops Q (o :: rest) a w := by
  obtain ⟨i, hi0, hz, hs1, hb⟩ := info_parts hi
  have hbb : (n + m) * bytes ≤ 549755813888 * 256 := Nat.mul_le_mul hsm hb8
  refine wpList_append_row w hgd s x t ho base e i z 1 bytes ht hi0 hz hs1 hb hzs (by decide) v n xs hs hown A m c news hx (by omega) hr h1 (by unfold maxLen; omega) (by omega) hg ?_
  intro A' c' w' ho' hr' hgb hor
  exact h A' c' w' ho' hgb hor
theorem wp_appN {P : Program} {w : World} {o : Oper} {a : Act} {K : Act → World → Prop} {Q : Exit → Act → World → Prop} (s x : Operand) (t e : TypeId)
    (ho : o.op = .call { callee := .builtin .append, args := #[s, x], argTypes := #[t, t] })
    (base : Nat) (z : Value) (bytes : Nat) (ht : P.underlying t = some (.slice e)) (hi : (P.info? e).map (fun i => (i.zero, i.size, i.bytes)) = some (some z, 1, bytes)) (hzs : z.cells.size = 1) (hb8 : bytes ≤ 256)
    (v : Value) (n : Nat) (xs : List Value) (hs : a.eval s = v) (hown : w.ownsRow base e 1 v n xs)
    (A : Option Addr) (m c : Nat) (news : List Value) (hx : a.eval x = .slice A m c) (hl : news.length = m) (hr : Row w A news) (h1 : ∀ u ∈ news, u.oneCell' = true)
    (hsm : n + m ≤ 549755813888) (hg : base ≤ w.heap.size)
    (h : ∀ A' c' w', w'.ownsRow base e 1 (.slice A' (n + m) c') (n + m) (xs ++ news) → w.grownBy w' v.ownBlock → ((Value.slice A' (n + m) c').ownBlock = v.ownBlock ∨ (Value.slice A' (n + m) c').ownBlock = some w.heap.size) → K (a.put o.dst (.slice A' (n + m) c')) w') : o.wp P a w K Q := by
  obtain ⟨i, hi0, hz, hs1, hb⟩ := info_parts hi
  have hbb : (n + m) * bytes ≤ 549755813888 * 256 := Nat.mul_le_mul hsm hb8
  refine wp_append_row w s x t ho base e i z 1 bytes ht hi0 hz hs1 hb hzs (by decide) v n xs hs hown A m c news hx (by omega) hr h1 (by unfold maxLen; omega) (by omega) hg ?_
  intro A' c' w' ho' hr' hgb hor
  exact h A' c' w' ho' hgb hor
/-- Lists of numbers are handed back. -/
def NestF (w : World) (ll : List (List Nat)) (e : Ending) (w' : World) : Prop := ∃ A k, e = .returned (.slice A ll.length k) ∧ Grew w w' ∧ NestR w' A ll
theorem nums_same {w : World} {b o n i : Nat} {f : Nat → Nat} (h : Row w (some ⟨b, o, none⟩) (numsL n f)) (hi : i < n) : b < w.heap.size ∧ w.cell? ⟨b, o + i, none⟩ = some (.int .i64 (f i)) := by
  obtain ⟨b', o', hA, hb, c0⟩ := h.nums hi
  injection hA with hA
  injection hA with e1 e2 _
  subst e1 e2
  exact ⟨hb, c0⟩
end Go.Proofs.Ytfdjnhnchibejaa

/- Layer 14: groups, by the program. Condition: environments and columns that lie in memory that is there; not more than twenty environments. -/
namespace Go.Proofs.Ytfdjnhnchibejaa
open Go.RowKit
attribute [local go_sem] more_cell more_frozen more_more more_setCell more_of_drew more_of_drewN lt_more le_more past_cell past_cell2 past_frozen past_frozen2 past_setCell past_setCell2 mid_cell mid_frozen mid_setCell
attribute [local go_sem ↓] Go.wp_at_zero Go.wp_at_succ

/-- The groups; what they are while they are filled. -/
def grpL (n nb : Nat) (all : Bool) (r : Nat → Nat) : List (List Nat) := if n = 0 then (if nb = 0 ∧ all = true then [[]] else []) else clsM n r
def grpQ (m n : Nat) (r : Nat → Nat) : List (List Nat) := if n = 0 then [[]] else clsP m n r
def cntQ (n : Nat) (r : Nat → Nat) : Nat := if n = 0 then 1 else rootsN n r
theorem grpQ_len (m n : Nat) (r : Nat → Nat) : (grpQ m n r).length = cntQ n r := by
  unfold grpQ cntQ
  by_cases h : n = 0
  · rw [if_pos h, if_pos h]; rfl
  · rw [if_neg h, if_neg h, clsP_len]
theorem grpQ_zero (n : Nat) (r : Nat → Nat) : grpQ 0 n r = List.replicate (cntQ n r) [] := by
  unfold grpQ cntQ
  by_cases h : n = 0
  · rw [if_pos h, if_pos h]; rfl
  · rw [if_neg h, if_neg h, clsP_zero]
theorem grpQ_end {n nb : Nat} {all : Bool} (r : Nat → Nat) (h : n ≠ 0 ∨ (n = 0 ∧ nb = 0 ∧ all = true)) : grpQ n n r = grpL n nb all r := by
  unfold grpQ grpL
  by_cases h0 : n = 0
  · rw [if_pos h0, if_pos h0, if_pos (by rcases h with h | h; exact absurd h0 h; exact h.2)]
  · rw [if_neg h0, if_neg h0, clsP_end]
theorem cntQ_first {n : Nat} (envs : List (List (List Vl))) : cntQ n (lst (alike envs [])) = 1 := by
  unfold cntQ
  by_cases h : n = 0
  · rw [if_pos h]
  · rw [if_neg h]
    have h0 : ∀ i, lst (alike envs []) i = 0 := fun i => by
      rcases Nat.eq_zero_or_pos (lst (alike envs []) i) with h | h
      · exact h
      · have := lst_min (alike envs []) i h
        simp [alike] at this
    have h1 : ∀ n, rootsN (n + 1) (lst (alike envs [])) = 1 := fun n => by
      induction n with
      | zero => show 0 + (if _ then 1 else 0) = 1; rw [if_pos (h0 0)]
      | succ n ih => show rootsN (n + 1) _ + (if _ then 1 else 0) = 1; rw [ih, if_neg (by rw [h0]; omega)]
    obtain ⟨m, rfl⟩ : ∃ m, n = m + 1 := ⟨n - 1, by omega⟩
    exact h1 m
theorem gix_first (envs : List (List (List Vl))) (j : Nat) : gix (alike envs []) j = 0 := by
  have h : lst (alike envs []) j = 0 := by
    rcases Nat.eq_zero_or_pos (lst (alike envs []) j) with h | h
    · exact h
    · have := lst_min (alike envs []) j h
      simp [alike] at this
  unfold gix
  rw [h]
  rfl
theorem nest_made (w : World) (bo bi c : Nat) (hb : bo ≤ w.heap.size) (hc : c ≤ 1000000) : Nest (w.alloc (.cells (madeCells #[.slice none 0 0] c) 38)) bo bi (some ⟨w.heap.size, 0, none⟩) c (madeCells #[.slice none 0 0] c).toList (List.replicate c []) := by
  have hv : ∀ (j : Nat) v, (madeCells #[Value.slice none 0 0] c).toList[j]? = some v → v = .slice none 0 0 := fun j v h => by
    rw [toList_madeCells_one] at h
    exact (List.mem_replicate.1 (List.mem_of_getElem? h)).2
  have hl : (madeCells #[Value.slice none 0 0] c).size = c := size_madeCells _ _
  refine ⟨by simp [hl], ?_, fun j v l h1 h2 => ?_, fun j k v v' _ h1 _ b hb => ?_⟩
  · rw [List.length_replicate]
    exact own_lit w bo _ 1 c w.heap.size _ rfl hb (by rw [hl, Nat.mul_one]) hc
  · have e := hv j v h1
    subst e
    have e2 : l = [] := by
      have := List.mem_of_getElem? h2
      exact (List.mem_replicate.1 this).2
    subst e2
    exact ⟨⟨none, 0, rfl⟩, own_none _ _ _ _⟩
  · rw [hv j v h1] at hb
    cases hb
def GrAt (u : World) (n nb gb : Nat) (envs : List (List (List Vl))) (bs : List Ex) (v i : Value) (wr : World) : Prop :=
  ∃ (q : Nat) (gf : Nat → Nat), q ≤ nb ∧ i = .int .i64 q ∧ v = .int .i64 (cntQ n (lst (alike envs (bs.take q))) : Nat) ∧ Grew u wr ∧ Blok wr gb 3 (numsV n gf) ∧ ∀ j, j < n → gf j = gix (alike envs (bs.take q)) j
def Gr2At (u : World) (n gb ob bo cn : Nat) (E : Nat → Nat → Bool) (i : Value) (wr : World) : Prop :=
  ∃ (m : Nat) (vs : List Value) (gf : Nat → Nat), m ≤ n ∧ i = .int .i64 m ∧ Grew u wr ∧ Blok wr gb 3 (numsV n gf) ∧ (∀ j, j < n → gf j = gix E j) ∧ Nest wr bo bo (some ⟨ob, 0, none⟩) cn vs (grpQ m n (lst E))
set_option maxHeartbeats 4000000 in
set_option maxRecDepth 400000 in
theorem groups_any (envs : List (List (List Vl))) (ho : EnvsOk envs) (n : Nat) (hn : envs.length = n) (hn20 : n ≤ 20) (bs : List Ex) (nb : Nat) (hnb : bs.length = nb) (hb0 : nb ≤ 1000000) (A : Option Addr) (ka : Nat) (B : Option Addr) (kb : Nat) (all : Bool) (w : World) (ra : EnvsR (PRow w) A envs) (rb : ExsR (PRow w) B bs) :
    Calls Try.prog 19 #[.slice A n ka, .slice B nb kb, .bool all] w (NestF w (grpL n nb all (lst (alike envs bs)))) := by
  by_cases hcase : n ≠ 0 ∨ (n = 0 ∧ nb = 0 ∧ all = true)
  rotate_left
  · have h0 : n = 0 := by
      rcases Nat.eq_zero_or_pos n with h | h
      · exact h
      · exact absurd (Or.inl (by omega)) hcase
    have hL : grpL n nb all (lst (alike envs bs)) = [] := by
      unfold grpL
      rw [if_pos h0, if_neg]
      rintro ⟨h1, h2⟩
      exact hcase (Or.inr ⟨h0, h1, h2⟩)
    rw [hL]
    subst h0
    clear ra rb hL
    rcases Nat.eq_zero_or_pos nb with h | h
    · have hf : all = false := by
        cases all
        · rfl
        · exact absurd (Or.inr ⟨rfl, h, rfl⟩) hcase
      subst hf
      rw [h]
      clear hcase
      go_enter Try.func19, Try.ntmps19
      go_wp2
      go_ret
      exact ⟨none, 0, rfl, Grew.refl _, ⟨[], rfl, Or.inl rfl, fun j v l h1 => by simp at h1⟩⟩
    · have h' : (0 : Int) < nb := by omega
      clear hcase
      go_enter Try.func19, Try.ntmps19
      go_wp2
      go_ret
      exact ⟨none, 0, rfl, Grew.refl _, ⟨[], rfl, Or.inl rfl, fun j v l h1 => by simp at h1⟩⟩
  have HCase := Lib.hid hcase
  have RB := Lib.hid rb
  have HPart := Lib.hid (fun cs c C kc gb gf W h1 h2 h3 h4 => part_any envs ho n hn hn20 cs c C kc A ka gb gf w W h1 h2 h3 h4 ra)
  have HNB := Lib.hid hnb
  have HEq0 := Lib.hid (alike_eqv envs bs)
  obtain ⟨j0, hj, hj'⟩ := Option.map_eq_some_iff.1 infoInt3
  simp only [Prod.mk.injEq] at hj'
  obtain ⟨hj0, hj1, hj2⟩ := hj'
  have HJ := Lib.hid hj
  have HJ0 := Lib.hid hj0
  have HJ1 := Lib.hid hj1
  have HJ2 := Lib.hid hj2
  obtain ⟨i0, hi, hi'⟩ := Option.map_eq_some_iff.1 infoSl
  simp only [Prod.mk.injEq] at hi'
  obtain ⟨hi0, hi1, hi2⟩ := hi'
  have HI := Lib.hid hi
  have HI0 := Lib.hid hi0
  have HI1 := Lib.hid hi1
  have HI2 := Lib.hid hi2
  clear hj hj0 hj1 hj2 hi hi0 hi1 hi2 ra rb ho hn hnb
  go_enter Try.func19, Try.ntmps19
  go_upto_region 1 with fail
  go_cut [25] (fun v wx => v = .bool false ∧ wx = w)
  case first =>
    rcases hcase with h | ⟨rfl, rfl, rfl⟩
    · have t1 : ((n : Int) == 0) = false := by rw [beq_eq_false_iff_ne]; omega
      go_wp2
      go_meet
      case rel => exact ⟨rfl, rfl⟩
    · go_wp2
      go_meet
      case rel => exact ⟨rfl, rfl⟩
  case rest =>
    obtain ⟨rfl, hw⟩ := hcut
    have hw := hw.symm
    subst hw
    clear hcase
    go_wp2_with (at_make; refine wpList_make_row _ rfl _ _ 38 rfl 3 j0 (.int .i64 0) Try.underlying38 HJ.out HJ0.out HJ1.out rfl _ _ n rfl rfl (by rw [HJ2.out]; omega) (by omega) ?_)
    have HW1 : Hid (Blok (w.alloc (.cells (madeCells #[.int .i64 0] n) 3)) w.heap.size 3 (numsV n fun _ => 0)) := Lib.hid (by
      rw [made_nums n (fun _ => 0) (fun i => rfl)]
      exact Blok.new _ _ _ _ rfl)
    go_loopw [8, 31] (fun v i wr => GrAt w n nb w.heap.size envs bs v i wr) (fun _ i _ => nb - (intOf i).toNat)
    case atStart =>
      refine ⟨0, fun _ => 0, Nat.zero_le _, rfl, ?_, (Grew.refl w).alloc _, HW1.out, fun j _ => ?_⟩
      · rw [List.take_zero, cntQ_first]
        rfl
      · rw [List.take_zero, gix_first]
    case round =>
      obtain ⟨q, gf, hq, rfl, rfl, hg, hbk, hgf⟩ := hrel
      have HG := Lib.hid hg
      have HB := Lib.hid hbk
      have HGf := Lib.hid hgf
      have hbl := hbk.lt
      clear hg hbk hgf HW1
      by_cases h : q < nb
      · have hn0 : n ≠ 0 := by rcases HCase.out with h1 | h1 <;> omega
        have hql : q < bs.length := by rw [HNB.out]; exact h
        obtain ⟨ba, oa, PA, kc, rfl, hpa, h9⟩ := exsR_nine RB.out hql
        have HP : Hid (∀ W, Grew wr W → Calls Try.prog 112 #[.slice (some ⟨w.heap.size, 0, none⟩) n n, .slice A n ka, exV bs[q] PA kc] W (PartF w n w.heap.size (alike envs (bs.take (q + 1))))) := Lib.hid fun W hW => by
          rw [List.take_succ_eq_append_getElem hql]
          exact HPart.out (bs.take q) bs[q] PA kc w.heap.size gf W (HG.out.trans hW) (Nat.le_refl _) (HB.out.grew hW) HGf.out
        have HCn : Hid (rootsN n (lst (alike envs (bs.take (q + 1)))) = cntQ n (lst (alike envs (bs.take (q + 1))))) := Lib.hid (by unfold cntQ; rw [if_neg hn0])
        obtain ⟨p0, a0, a1, a2, a3, a4, a5, a6, a7, a8⟩ := h9.grew HG.out
        clear h9 hpa HPart HGf
        generalize bs[q] = y at *
        generalize cntQ n (lst (alike envs (bs.take q))) = cq at *
        unfold exV at HP
        go_wp2_with (go_at_call 112; (with_reducible refine (HP.out _ ((Grew.refl wr).alloc _)).mono ?_); rintro e w2 ⟨rfl, hg2, gf2, hb2, hgf2⟩; have HG2 := Lib.hid hg2; have HB2 := Lib.hid hb2; have HF2 := Lib.hid hgf2; clear hg2 hb2 hgf2)
        refine ⟨⟨q + 1, gf2, by omega, by go_num, by rw [HCn.out], HG2.out, HB2.out, HF2.out⟩, by simp only [intOf]; omega⟩
      · obtain rfl : q = nb := by omega
        have HTk : Hid (bs.take q = bs) := Lib.hid (by rw [← HNB.out, List.take_length])
        rw [HTk.out] at HGf ⊢
        have HEq := HEq0
        clear HEq0
        generalize alike envs bs = E at *
        have hcl : cntQ n (lst E) ≤ 1000000 := by
          unfold cntQ
          have := rootsN_le n (lst E)
          split <;> omega
        have HEnd := Lib.hid (grpQ_end (lst E) HCase.out)
        have HQ0 := Lib.hid (grpQ_zero n (lst E))
        have HQl := Lib.hid (fun m => grpQ_len m n (lst E))
        have HLs : Hid (∀ j, j < n → lst E j < n ∧ lst E (lst E j) = lst E j) := Lib.hid fun j hj => by
          have h1 := lst_le E j
          exact ⟨by omega, (lst_least HEq.out n).idem j hj⟩
        generalize cntQ n (lst E) = cn at *
        clear HCase HPart RB HNB HTk hb0
        go_wp2_with (at_make; refine wpList_make_row _ rfl _ _ 36 rfl 38 i0 (.slice none 0 0) Try.underlying36 HI.out HI0.out HI1.out rfl _ _ cn rfl rfl (by rw [HI2.out]; omega) (by omega) ?_)
        have hwr := HG.out.size
        have HN0 : Hid (Nest (wr.alloc (.cells (madeCells #[.slice none 0 0] cn) 38)) (w.heap.size + 1) (w.heap.size + 1) (some ⟨wr.heap.size, 0, none⟩) cn (madeCells #[.slice none 0 0] cn).toList (grpQ 0 n (lst E))) := Lib.hid (by
          rw [HQ0.out]
          exact nest_made wr _ _ cn (by omega) hcl)
        obtain ⟨wo, rfl⟩ : ∃ wo : World, wo = wr := ⟨_, rfl⟩
        go_loopw [44] (fun i wx => Gr2At w n w.heap.size wo.heap.size (w.heap.size + 1) cn E i wx) (fun i _ => n - (intOf i).toNat)
        case atStart => exact ⟨0, _, gf, Nat.zero_le _, rfl, HG.out.alloc _, HB.out.alloc _, HGf.out, HN0.out⟩
        case round =>
          obtain ⟨m, vs, gf2, hm, rfl, hg2, hb2, hgf2, hne⟩ := hrel
          have HG2 := Lib.hid hg2
          have HB2 := Lib.hid hb2
          have HF2 := Lib.hid hgf2
          have HN2 := Lib.hid hne
          have hl2 := hb2.lt
          clear hg2 hgf2 HG HB HGf HN0
          by_cases hmn : m < n
          · have hn0 : ¬ n = 0 := by omega
            obtain ⟨hp1, hp2⟩ := HLs.out m hmn
            have hgm : gf2 m = rootsN (lst E m) (lst E) := HF2.out m hmn
            have c0 := hb2.cell m
            rw [numsV_at n gf2 m hmn, hgm] at c0
            have e0 : ∀ m, grpQ m n (lst E) = clsP m n (lst E) := fun m => by unfold grpQ; rw [if_neg hn0]
            have hat : (grpQ m n (lst E))[rootsN (lst E m) (lst E)]? = some (clsL m (lst E) (lst E m)) := by rw [e0]; exact clsP_at hp1 hp2
            have HSt : Hid (grpQ (m + 1) n (lst E) = (grpQ m n (lst E)).set (rootsN (lst E m) (lst E)) (clsL m (lst E) (lst E m) ++ [m])) := Lib.hid (by rw [e0, e0]; exact clsP_step rfl hp1 hp2)
            have hll := clsL_le m (lst E m) (lst E)
            clear hgm e0 hp1 hp2
            generalize rootsN (lst E m) (lst E) = q at *
            generalize clsL m (lst E) (lst E m) = l at *
            have hql : q < (grpQ m n (lst E)).length := (List.getElem?_eq_some_iff.1 hat).1
            have HAt := Lib.hid hat
            rw [HQl.out m] at hql
            obtain ⟨V, hV⟩ : ∃ V, vs[q]? = some V := ⟨_, List.getElem?_eq_getElem (by rw [hne.len, HQl.out m]; exact hql)⟩
            have HV := Lib.hid hV
            obtain ⟨⟨B', c2, rfl⟩, hin⟩ := hne.inner q V l hV hat
            have HIn := Lib.hid hin
            have c1 := hne.outer.cellAt q (by rw [HQl.out m]; omega)
            rw [hV] at c1
            have l1 := World.ownsRow.lt hne.outer wo.heap.size rfl
            clear hat hV hin hne hb2
            go_wp2_with (at_builtin; refine wpList_appN rfl (.tmp 54) (.tmp 56) 38 3 rfl (w.heap.size + 1) (.int .i64 0) 8 Try.underlying38 infoInt3 rfl (by decide) _ l.length (nL l) rfl (own_alloc HIn.out _) _ 1 1 [.int .i64 m] rfl rfl (row_one _ _ _ _ rfl) (by intro u hu; obtain rfl := List.mem_singleton.1 hu; rfl) (by omega) (by rw [World.size_alloc]; omega) ?_)
            intro A6 c6 w6 ho6 hg6 hor6
            have hrow6 : ∀ i, (Value.slice B' l.length c2).ownBlock = some i → w.heap.size + 1 ≤ i := own_base HIn.out
            have HP6 : Hid (Nest (w6.setCell ⟨wo.heap.size, q, none⟩ (.slice A6 (l.length + 1) c6)) (w.heap.size + 1) (w.heap.size + 1) (some ⟨wo.heap.size, 0, none⟩) cn (vs.set q (.slice A6 (l.length + 1) c6)) ((grpQ m n (lst E)).set q (l ++ [m]))) := Lib.hid ((HN2.out.grew ((Grew.refl _).alloc _)).put HV.out HAt.out ho6 ⟨A6, c6, rfl⟩ hg6 (by rw [World.size_alloc]; exact hor6))
            have hou := own_grown (own_alloc HN2.out.outer _) hg6 fun k hk e => type_apart HN2.out.outer HIn.out (by decide) k hk e.symm
            have c5 := hou.cellAt q (by rw [HQl.out m]; omega)
            rw [HV.out] at c5
            have z5 := hou.frozenAt q
            have l5 := World.ownsRow.lt hou wo.heap.size rfl
            have HB6 : Hid (Blok (w6.setCell ⟨wo.heap.size, q, none⟩ (.slice A6 (l.length + 1) c6)) w.heap.size 3 (numsV n gf2)) := Lib.hid (((HB2.out.alloc _).grown hg6 fun e => by have := hrow6 _ e; omega).far (p := ⟨wo.heap.size, q, none⟩) (fun e => by have e : w.heap.size = wo.heap.size := e; omega) _)
            have HG6 : Hid (Grew w (w6.setCell ⟨wo.heap.size, q, none⟩ (.slice A6 (l.length + 1) c6))) := Lib.hid (((HG2.out.alloc _).grown hg6 fun i hi => by have := hrow6 i hi; omega).setCell (a := ⟨wo.heap.size, q, none⟩) (by show _ ≤ wo.heap.size; omega) _)
            clear hou ho6 hg6 hor6 HN2 HIn HV HAt c1 HB2 HG2
            go_wp2
            refine ⟨⟨m + 1, _, gf2, by omega, by go_num, HG6.out, HB6.out, HF2.out, by rw [HSt.out]; exact HP6.out⟩, by simp only [intOf]; omega⟩
          · obtain rfl : m = n := by omega
            have hr := HN2.out.read
            have hql := HQl.out m
            rw [HEnd.out] at hr hql
            have HR := Lib.hid hr
            have HQ := Lib.hid hql
            clear hr hql HN2
            go_wp2
            go_ret
            exact ⟨_, _, by rw [HQ.out]; rfl, HG2.out, HR.out⟩
end Go.Proofs.Ytfdjnhnchibejaa

/- Layer 13: values of expressions, by the program and by the document. Condition: rows and expressions that lie in memory that is there. -/
namespace Go.Proofs.Ytfdjnhnchibejaa
open Go.RowKit
attribute [local go_sem] more_cell more_frozen more_more more_setCell more_of_drew more_of_drewN lt_more le_more past_cell past_cell2 past_frozen past_frozen2 past_setCell past_setCell2 mid_cell mid_frozen mid_setCell
attribute [local go_sem ↓] Go.wp_at_zero Go.wp_at_succ

set_option maxHeartbeats 1000000 in
theorem rat_any (env : List (List Vl)) (he : RwsOk env) (A : Option Addr) (k : Nat) (t c : Int) (w : World) (ra : RwsR (PRow w) A env) :
    Gives Try.prog 180 #[.slice A env.length k, .int .i64 t, .int .i64 c] w (vlV (atE env t c)) := by
  have hlen := he.1
  unfold Gives
  by_cases h1 : 0 ≤ t ∧ t < env.length
  · obtain ⟨h1, h2⟩ := h1
    obtain ⟨t, rfl⟩ : ∃ n : Nat, t = n := ⟨t.toNat, by omega⟩
    have ht : t < env.length := by omega
    obtain ⟨b, o, B, kb, rfl, hb, hc, _, hv⟩ := rwsR_at ra ht
    have hl2 := (he.2 _ (List.getElem_mem ht)).1
    have e0 : env.getD (t : Int).toNat [] = env[t] := by simp [List.getD, ht]
    by_cases h3 : 0 ≤ c
    · by_cases h4 : c < (env[t].length : Int)
      · obtain ⟨c, rfl⟩ : ∃ n : Nat, c = n := ⟨c.toNat, by omega⟩
        have hcl : c < env[t].length := by omega
        obtain ⟨b', o', rfl, hb', c0, c1, c2⟩ := vlsR_at hv hcl
        rw [atE_in ht hcl]
        clear e0 hv ra
        generalize hr : env[t] = r at *
        clear hr
        obtain ⟨x, hx⟩ : ∃ x, r[c] = x := ⟨_, rfl⟩
        rw [hx] at c0 c1 c2 ⊢
        clear hx
        unfold vlV
        go_enter Try.func180, Try.ntmps180
        go_wp2
        exact bodyPost_ret (v := .agg #[.int .i64 x.k, .int .i64 x.i, .string x.s]) (by simp [results, Try.results180, go_sem]) rfl ⟨rfl, by (show Grew _ _; repeat (first | exact Grew.refl _ | refine Grew.alloc ?_ _ | refine Grew.drew ?_ | refine Grew.more ?_ _))⟩
      · have h4' : (env[t].length : Int) ≤ c := by omega
        rw [atE_out (by rw [e0]; omega)]
        clear e0 hv ra h4
        generalize env[t] = r at *
        unfold vlV zV
        go_enter Try.func180, Try.ntmps180
        go_wp2
        exact bodyPost_ret (v := .agg #[.int .i64 0, .int .i64 0, .string ⟨#[]⟩]) (by simp [results, Try.results180, go_sem]) rfl ⟨rfl, by (show Grew _ _; repeat (first | exact Grew.refl _ | refine Grew.alloc ?_ _ | refine Grew.drew ?_ | refine Grew.more ?_ _))⟩
    · have h3' : c < 0 := by omega
      rw [atE_out (by omega)]
      clear e0 hv ra h3
      generalize env[t] = r at *
      unfold vlV zV
      go_enter Try.func180, Try.ntmps180
      go_wp2
      exact bodyPost_ret (v := .agg #[.int .i64 0, .int .i64 0, .string ⟨#[]⟩]) (by simp [results, Try.results180, go_sem]) rfl ⟨rfl, by (show Grew _ _; repeat (first | exact Grew.refl _ | refine Grew.alloc ?_ _ | refine Grew.drew ?_ | refine Grew.more ?_ _))⟩
  · rw [atE_out (by omega)]
    unfold vlV zV
    clear ra
    by_cases h0 : t < 0
    · go_enter Try.func180, Try.ntmps180
      go_wp2
      exact bodyPost_ret (v := .agg #[.int .i64 0, .int .i64 0, .string ⟨#[]⟩]) (by simp [results, Try.results180, go_sem]) rfl ⟨rfl, by (show Grew _ _; repeat (first | exact Grew.refl _ | refine Grew.alloc ?_ _ | refine Grew.drew ?_ | refine Grew.more ?_ _))⟩
    · have h0' : 0 ≤ t := by omega
      have h2 : (env.length : Int) ≤ t := by omega
      go_enter Try.func180, Try.ntmps180
      go_wp2
      exact bodyPost_ret (v := .agg #[.int .i64 0, .int .i64 0, .string ⟨#[]⟩]) (by simp [results, Try.results180, go_sem]) rfl ⟨rfl, by (show Grew _ _; repeat (first | exact Grew.refl _ | refine Grew.alloc ?_ _ | refine Grew.drew ?_ | refine Grew.more ?_ _))⟩
end Go.Proofs.Ytfdjnhnchibejaa

/- Layer 14: groups, by the document. Condition: environments and columns that lie in memory that is there; not more than twenty environments. -/
namespace Go.Proofs.Ytfdjnhnchibejaa
open Go.RowKit
attribute [local go_sem] more_cell more_frozen more_more more_setCell more_of_drew more_of_drewN lt_more le_more past_cell past_cell2 past_frozen past_frozen2 past_setCell past_setCell2 mid_cell mid_frozen mid_setCell
attribute [local go_sem ↓] Go.wp_at_zero Go.wp_at_succ

def TogAt (w : World) (bs : List Ex) (p : Ex → Bool) (i : Value) (wr : World) : Prop := ∃ j : Nat, j ≤ bs.length ∧ i = .int .i64 j ∧ Grew w wr ∧ (bs.take j).all p = true
set_option maxHeartbeats 1000000 in
theorem together_any (a b : List (List Vl)) (ha : RwsOk a) (hb : RwsOk b) (bs : List Ex) (hbs : bs.length ≤ 1000000) (A : Option Addr) (ka : Nat) (B : Option Addr) (kb : Nat) (C : Option Addr) (kc : Nat) (w : World) (ra : RwsR (PRow w) A a) (rb : RwsR (PRow w) B b) (rc : ExsR (PRow w) C bs)
    (t : Bool) (ht : (bs.all fun c => eqV (atE a c.t c.c) (atE b c.t c.c)) = t) :
    Gives Try.prog 113 #[.slice A a.length ka, .slice B b.length kb, .slice C bs.length kc] w (.bool t) := by
  unfold Gives
  have HA := Lib.hid (fun t c W (g : Grew w W) => rat_any a ha A ka t c W (ra.grew g))
  have HB := Lib.hid (fun t c W (g : Grew w W) => rat_any b hb B kb t c W (rb.grew g))
  have RC := Lib.hid rc
  have HT := Lib.hid ht
  clear ra rb rc ht
  have hal := ha.1
  have hbl := hb.1
  go_enter Try.func113, Try.ntmps113
  go_wp2
  go_loopw [7] (fun i wr => TogAt w bs (fun c => eqV (atE a c.t c.c) (atE b c.t c.c)) i wr) (fun i _ => bs.length - (intOf i).toNat)
  case atStart => exact ⟨0, Nat.zero_le _, rfl, Grew.refl _, rfl⟩
  case round =>
    obtain ⟨j, hj, rfl, hg, hall⟩ := hrel
    have HG := Lib.hid hg
    have HAll := Lib.hid hall
    clear hg hall
    by_cases h : j < bs.length
    · obtain ⟨bc, oc, PC, kc', rfl, _, h9⟩ := exsR_nine RC.out h
      obtain ⟨p0, a0, a1, a2, a3, a4, a5, a6, a7, a8⟩ := h9.grew HG.out
      have HX : Hid (∀ x, Gives Try.prog 180 #[.slice A a.length ka, .int .i64 bs[j].t, .int .i64 bs[j].c] (more wr x) (vlV (atE a bs[j].t bs[j].c))) := Lib.hid fun x => HA.out _ _ _ (HG.out.trans ⟨x, rfl⟩)
      have HY : Hid (∀ x, Gives Try.prog 180 #[.slice B b.length kb, .int .i64 bs[j].t, .int .i64 bs[j].c] (more wr x) (vlV (atE b bs[j].t bs[j].c))) := Lib.hid fun x => HB.out _ _ _ (HG.out.trans ⟨x, rfl⟩)
      obtain ⟨ts, hts⟩ : ∃ ts, eqV (atE a bs[j].t bs[j].c) (atE b bs[j].t bs[j].c) = ts := ⟨_, rfl⟩
      have HNext : Hid (ts = true → (bs.take (j + 1)).all (fun c => eqV (atE a c.t c.c) (atE b c.t c.c)) = true) := Lib.hid fun e => by
        rw [List.take_succ_eq_append_getElem h, List.all_append, HAll.out]
        simp only [List.all_cons, List.all_nil, Bool.and_true, Bool.true_and]
        rw [hts, e]
      have HFalse : Hid (ts = false → t = false) := Lib.hid fun e => by
        rw [← HT.out]
        cases hq : (bs.all fun c => eqV (atE a c.t c.c) (atE b c.t c.c)) with
        | false => rfl
        | true =>
          have := List.all_eq_true.1 hq _ (List.getElem_mem h)
          rw [hts, e] at this
          cases this
      have HTS := Lib.hid hts
      clear hts h9 HA HB HAll
      generalize bs[j] = y at *
      generalize atE a y.t y.c = u at *
      generalize atE b y.t y.c = v at *
      unfold eqV at HTS
      have HS : Hid (∀ W, Gives Try.prog 179 #[.agg #[.int .i64 u.k, .int .i64 u.i, .string u.s], .agg #[.int .i64 v.k, .int .i64 v.i, .string v.s]] W (.bool ts)) := Lib.hid fun W => by rw [← HTS.out]; exact rsame_any _ _ _ _ _ _ _
      unfold vlV at HX HY
      go_upto_region 4 with fail
      refine wp_region_more (by kernel_rfl) (by kernel_rfl) ?_
      repeat (go_big_quiet_step (((first | (go_at_call 180; with_reducible exact (HX.out _).within) | (go_at_call 180; with_reducible exact (HY.out _).within) | (go_at_call 179; with_reducible exact (HS.out _).within)))))
      refine wpQuiet_nil ?_
      rintro _ ⟨z, rfl⟩
      cases ts
      · obtain rfl := HFalse.out rfl
        go_wp2
        go_ret
        exact ⟨rfl, HG.out.more z⟩
      · go_wp2
        exact ⟨⟨j + 1, by omega, by go_num, HG.out.more z, HNext.out rfl⟩, by simp only [intOf]; omega⟩
    · obtain rfl : j = bs.length := by omega
      have ht : t = true := by
        have h1 := HAll.out
        rw [List.take_length] at h1
        rw [← HT.out]
        exact h1
      subst ht
      go_wp2
      go_ret
      exact ⟨rfl, HG.out⟩
end Go.Proofs.Ytfdjnhnchibejaa

/- Layer 14: groups, by the document, whole. Condition: environments and columns that lie in memory that is there; not more than twenty environments. -/
namespace Go.Proofs.Ytfdjnhnchibejaa
open Go.RowKit
attribute [local go_sem] more_cell more_frozen more_more more_setCell more_of_drew more_of_drewN lt_more le_more past_cell past_cell2 past_frozen past_frozen2 past_setCell past_setCell2 mid_cell mid_frozen mid_setCell
attribute [local go_sem ↓] Go.wp_at_zero Go.wp_at_succ

def RGrAt (n : Nat) (r : Nat → Nat) (w : World) (v i : Value) (wr : World) : Prop :=
  ∃ (j : Nat) (A : Option Addr) (c : Nat) (vs : List Value), j ≤ n ∧ i = .int .i64 j ∧ v = .slice A (clsM j r).length c ∧ Nest wr w.heap.size w.heap.size A c vs (clsM j r) ∧ Grew w wr
def RGrIn (j : Nat) (E : Nat → Nat → Bool) (w : World) (A : Option Addr) (c m : Nat) (f i : Value) (wr : World) : Prop :=
  ∃ (k : Nat) (found : Bool) (vs : List Value) (L : List (List Nat)), i = .int .i64 k ∧ f = .bool found ∧ L.length = m ∧ Nest wr w.heap.size w.heap.size A c vs L ∧ Grew w wr ∧ k ≤ m ∧
    (found = false → L = clsM j (lst E) ∧ ∀ q, q < k → ∀ p, (rootsL j (lst E))[q]? = some p → E p j = false) ∧ (found = true → L = clsM (j + 1) (lst E))
theorem none_root {E : Nat → Nat → Bool} (h : Eqv E) {j : Nat} (hn : ∀ q, q < (clsM j (lst E)).length → ∀ p, (rootsL j (lst E))[q]? = some p → E p j = false) : lst E j = j := by
  rcases Nat.lt_or_ge (lst E j) j with h1 | h1
  · exfalso
    have h2 := lst_rel h j
    have h3 := (lst_eq h).2 h2
    have h4 := rootsL_find (m := j) (r := lst E) h1 h3
    have h5 := hn _ (by rw [clsM_len]; exact rootsN_lt h1 h3) _ h4
    rw [h2] at h5
    cases h5
  · have := lst_le E j
    omega
set_option maxHeartbeats 4000000 in
set_option maxRecDepth 100000 in
theorem rgroups_any (envs : List (List (List Vl))) (ho : EnvsOk envs) (n : Nat) (hn : envs.length = n) (hn20 : n ≤ 20) (bs : List Ex) (nb : Nat) (hnb : bs.length = nb) (hb0 : nb ≤ 1000000) (A : Option Addr) (ka : Nat) (B : Option Addr) (kb : Nat) (all : Bool) (w : World) (ra : EnvsR (PRow w) A envs) (rb : ExsR (PRow w) B bs) :
    Calls Try.prog 20 #[.slice A n ka, .slice B nb kb, .bool all] w (NestF w (grpL n nb all (lst (alike envs bs)))) := by
  have HTog : Hid (∀ p j, p < n → j < n → ∃ b o P1 m1 k1 P2 m2 k2, A = some ⟨b, o, none⟩ ∧ ∀ W, Grew w W → b < W.heap.size ∧ W.cell? ⟨b, o + p, none⟩ = some (.slice P1 m1 k1) ∧ W.cell? ⟨b, o + j, none⟩ = some (.slice P2 m2 k2) ∧ Gives Try.prog 113 #[.slice P1 m1 k1, .slice P2 m2 k2, .slice B nb kb] W (.bool (alike envs bs p j))) := Lib.hid fun p j hp hj => by
    obtain ⟨b, o, P1, k1, hA, hb, hc, _, hr⟩ := envsR_at ra (show p < envs.length by omega)
    obtain ⟨b', o', P2, k2, hA', _, hc', _, hr'⟩ := envsR_at ra (show j < envs.length by omega)
    rw [hA] at hA'
    injection hA' with hA'
    injection hA' with e1 e2 _
    subst e1 e2
    refine ⟨b, o, P1, _, k1, P2, _, k2, hA, fun W hW => ⟨Nat.lt_of_lt_of_le hb hW.size, (hW.cell (a := ⟨b, o + p, none⟩) hb).trans hc, (hW.cell (a := ⟨b, o + j, none⟩) hb).trans hc', ?_⟩⟩
    have h2 := together_any envs[p] envs[j] (ho.2 _ (List.getElem_mem (by omega))) (ho.2 _ (List.getElem_mem (by omega))) bs (by omega) P1 k1 P2 k2 B kb W (hr.grew hW) (hr'.grew hW) (rb.grew hW) (alike envs bs p j) (by
      unfold alike valAt
      rw [List.getD_eq_getElem?_getD, List.getElem?_eq_getElem (by omega), List.getD_eq_getElem?_getD, List.getElem?_eq_getElem (by omega)]
      rfl)
    rw [hnb] at h2
    exact h2
  have HE := Lib.hid (alike_eqv envs bs)
  clear ra rb ho hn hnb
  generalize alike envs bs = E at *
  go_enter Try.func20, Try.ntmps20
  go_wp2
  go_loopw [7, 8] (fun v i wr => RGrAt n (lst E) w v i wr) (fun _ i _ => n - (intOf i).toNat)
  case atStart => exact ⟨0, none, 0, [], Nat.zero_le _, rfl, rfl, Nest.none w _ _, Grew.refl _⟩
  case round =>
    obtain ⟨j, A0, c, vs, hj, rfl, rfl, hne, hg⟩ := hrel
    have HG := Lib.hid hg
    have HN := Lib.hid hne
    clear hg hne
    by_cases hjn : j < n
    · have hLj : (clsM j (lst E)).length ≤ j := by rw [clsM_len]; exact rootsN_le _ _
      have HCM := Lib.hid (fun k (hk : k < (clsM j (lst E)).length) => clsM_get (lst_least HE.out n) hj hk)
      have HNone := Lib.hid (none_root (j := j) HE.out)
      obtain ⟨M, hM⟩ : ∃ M, clsM j (lst E) = M := ⟨_, rfl⟩
      have HM := Lib.hid hM
      rw [hM] at HN HCM HNone hLj ⊢
      obtain ⟨ml, hml⟩ : ∃ ml, M.length = ml := ⟨_, rfl⟩
      have HML := Lib.hid hml
      rw [hml] at HCM HNone hLj ⊢
      clear hM hml
      go_wp2
      obtain ⟨wo, rfl⟩ : ∃ wo : World, wo = wr := ⟨_, rfl⟩
      go_loopw [9, 10] (fun f i wx => RGrIn j E w A0 c ml f i wx) (fun _ i _ => ml - (intOf i).toNat)
      case atStart => exact ⟨0, false, vs, M, rfl, rfl, HML.out, HN.out, HG.out, Nat.zero_le _, fun _ => ⟨HM.out.symm, fun q hq => by omega⟩, fun e => by cases e⟩
      case round =>
        obtain ⟨k, found, vs1, L, rfl, rfl, hLm, hne, hg, hkL, hno, hyes⟩ := hrel
        have HG1 := Lib.hid hg
        have HN1 := Lib.hid hne
        have HLm := Lib.hid hLm
        clear hg hne HG HN hLm
        cases found
        · obtain ⟨hLM, hno⟩ := hno rfl
          rw [HM.out] at hLM
          subst hLM
          by_cases hk : k < ml
          · obtain ⟨p, tl, hat, hpj, hpp, hpk, hcl⟩ := HCM.out k hk
            have hroot : (rootsL j (lst E))[k]? = some p := by rw [← hpk]; exact rootsL_find hpj hpp
            obtain ⟨b, o, P1, m1, k1, P2, m2, k2, rfl, htg⟩ := HTog.out p j (by omega) hjn
            obtain ⟨hb, d1, d2, _⟩ := htg wr HG1.out
            have HX : Hid (∀ x, Gives Try.prog 113 #[.slice P1 m1 k1, .slice P2 m2 k2, .slice B nb kb] (more wr x) (.bool (E p j))) := Lib.hid fun x => (htg _ (HG1.out.trans ⟨x, rfl⟩)).2.2.2
            have HNo2 : Hid (E p j = false → ∀ q, q < k + 1 → ∀ p, (rootsL j (lst E))[q]? = some p → E p j = false) := Lib.hid fun e q hq p' hp' => by
              by_cases e2 : q = k
              · subst e2
                rw [hroot] at hp'
                injection hp' with hp'
                subst hp'
                exact e
              · exact hno q (by omega) p' hp'
            have HYes : Hid (E p j = true → clsM (j + 1) (lst E) = L.set k ((p :: tl) ++ [j])) := Lib.hid fun e => by
              have h1 : lst E j = p := by rw [← (lst_eq HE.out).2 e]; exact hpp
              rw [clsM_step h1 hpj hpp, hpk, hcl, HM.out]
            have hkv : k < vs1.length := by rw [HN1.out.len, HLm.out]; exact hk
            obtain ⟨V, hV⟩ : ∃ V, vs1[k]? = some V := ⟨_, List.getElem?_eq_getElem hkv⟩
            obtain ⟨⟨B1, c2, rfl⟩, hin⟩ := HN1.out.inner k V _ hV hat
            obtain ⟨ob, cap', hv, _⟩ := World.ownsRow.form HN1.out.outer (by rw [HLm.out]; omega)
            injection hv with hv1 _ hv3
            subst hv1 hv3
            have q0 := HN1.out.outer.cellAt k (by rw [HLm.out]; omega)
            rw [hV] at q0
            have l0 := World.ownsRow.lt HN1.out.outer ob rfl
            have z0 := HN1.out.outer.frozenAt k
            obtain ⟨g1, cap1, hv1, _⟩ := World.ownsRow.form hin (by simp)
            injection hv1 with hv1 _ hv3
            subst hv1 hv3
            have l1 := World.ownsRow.lt hin g1 rfl
            have q1 : wr.cell? ⟨g1, 0, none⟩ = some (.int .i64 p) := hin.cellAt 0 (by simp)
            have HAt := Lib.hid hat
            have HV := Lib.hid hV
            have HIn := Lib.hid hin
            have htl : (p :: tl).length ≤ j := by rw [hcl]; exact clsL_le _ _ _
            have hpn : p < n := by omega
            clear hat hV hin hroot hno hyes htg HTog hcl hpk hpp
            generalize E p j = ts at *
            go_upto_region 9 with fail
            have hpos : (0 : Int) < ((p :: tl).length : Int) := by simp
            generalize hlp : (p :: tl).length = lp at *
            have HLp := Lib.hid hlp
            clear hlp
            refine wp_region_more (by kernel_rfl) (by kernel_rfl) ?_
            repeat (go_big_quiet_step (((first | (go_at_call 113; with_reducible exact (HX.out _).within)))))
            refine wpQuiet_nil ?_
            rintro _ ⟨z, rfl⟩
            cases ts
            · have HS := Lib.hid (HNo2.out rfl)
              clear HNo2 HYes HX
              go_wp2
              exact ⟨⟨k + 1, false, vs1, L, by go_num, rfl, HLm.out, HN1.out.grew ⟨z, rfl⟩, HG1.out.more z, by omega, fun _ => ⟨HM.out.symm, HS.out⟩, fun e => by cases e⟩, by simp only [intOf]; omega⟩
            · have HS := Lib.hid (HYes.out rfl)
              clear HNo2 HYes HX
              have hwz := HG1.out.size
              go_wp2_with (at_builtin; refine wpList_appN rfl (.tmp 47) (.tmp 49) 38 3 rfl w.heap.size (.int .i64 0) 8 Try.underlying38 infoInt3 rfl (by decide) _ lp (nL (p :: tl)) rfl (own_alloc (own_more HIn.out z) _) _ 1 1 [.int .i64 j] rfl rfl (row_one _ _ _ _ rfl) (by intro u hu; obtain rfl := List.mem_singleton.1 hu; rfl) (by omega) (by have := (HG1.out.more z).size; rw [World.size_alloc]; omega) ?_)
              intro A6 c6 w6 ho6 hg6 hor6
              have hrow6 : ∀ i, (Value.slice (some ⟨g1, 0, none⟩) lp c2).ownBlock = some i → w.heap.size ≤ i := own_base HIn.out
              have HP6 : Hid (Nest (w6.setCell ⟨ob, k, none⟩ (.slice A6 (lp + 1) c6)) w.heap.size w.heap.size (some ⟨ob, 0, none⟩) c (vs1.set k (.slice A6 (lp + 1) c6)) (L.set k ((p :: tl) ++ [j]))) := Lib.hid (by
                have e := HLp.out
                subst e
                exact (HN1.out.grew (Grew.alloc (⟨z, rfl⟩ : Grew wr (more wr z)) _)).put HV.out HAt.out ho6 ⟨A6, c6, rfl⟩ hg6 (by rw [World.size_alloc]; exact hor6))
              have hou := own_grown (own_alloc (own_more HN1.out.outer z) _) hg6 fun k hk e => type_apart HN1.out.outer HIn.out (by decide) k hk e.symm
              have c5 := hou.cellAt k (by rw [HLm.out]; omega)
              rw [HV.out] at c5
              have z5 := hou.frozenAt k
              have l5 := World.ownsRow.lt hou ob rfl
              have hob := own_base HN1.out.outer ob rfl
              have HG6 : Hid (Grew w (w6.setCell ⟨ob, k, none⟩ (.slice A6 (lp + 1) c6))) := Lib.hid ((((HG1.out.more z).alloc _).grown hg6 fun i hi => hrow6 i hi).setCell (a := ⟨ob, k, none⟩) hob _)
              have HLs : Hid ((L.set k ((p :: tl) ++ [j])).length = ml) := Lib.hid (by rw [List.length_set]; exact HLm.out)
              clear hou ho6 hg6 hor6 HN1 HIn HV HAt HG1 q0 q1 l0 l1 z0
              go_wp2
              exact ⟨⟨k + 1, true, _, _, by go_num, rfl, HLs.out, HP6.out, HG6.out, by omega, fun e => (by cases e), fun _ => HS.out.symm⟩, by simp only [intOf]; omega⟩
          · obtain rfl : k = ml := by omega
            have hroot := HNone.out hno
            have HRt : Hid (clsM (j + 1) (lst E) = L ++ [[j]]) := Lib.hid (by rw [clsM_root (lst_least HE.out n) hjn hroot, HM.out])
            have HAp : Hid (∀ (i : Nat) (v' : Value), vs1[i]? = some v' → ∀ b, v'.ownBlock = some b → (Value.slice (some ⟨wr.heap.size, 0, none⟩) 1 1).ownBlock ≠ some b) := Lib.hid fun i v' hv b hb' hb2 => by
              have hi : i < vs1.length := (List.getElem?_eq_some_iff.1 hv).1
              have h3 := own_lt (HN1.out.inner i v' _ hv (List.getElem?_eq_getElem (by rw [← HN1.out.len]; exact hi))).2 b hb'
              have hb3 : some wr.heap.size = some b := hb2
              injection hb3 with hb3
              omega
            have hout := HN1.out.outer
            rw [HLm.out] at hout
            have HOut := Lib.hid hout
            have hwz := HG1.out.size
            clear hno hyes hroot hout
            go_wp2_with (at_builtin; refine wpList_appN rfl (.tmp 54) (.tmp 57) 36 38 rfl w.heap.size (.slice none 0 0) 24 Try.underlying36 infoSl rfl (by decide) _ k vs1 rfl (own_alloc (own_alloc HOut.out _) _) _ 1 1 [.slice (some ⟨wr.heap.size, 0, none⟩) 1 1] rfl rfl (row_one _ _ _ _ (by simp)) (by intro u hu; obtain rfl := List.mem_singleton.1 hu; rfl) (by omega) (by simp only [World.size_alloc]; omega) ?_)
            intro A2 d3 w2 ho2 hgb _
            have HG3 := Lib.hid (((HG1.out.alloc _).alloc _).grown hgb (own_base HOut.out))
            have HN3 : Hid (Nest w2 w.heap.size w.heap.size A2 d3 (vs1 ++ [.slice (some ⟨wr.heap.size, 0, none⟩) 1 1]) (L ++ [[j]])) := Lib.hid (by
              have e := HLm.out
              rw [← e] at ho2 hgb
              exact (HN1.out.grew (((Grew.refl wr).alloc _).alloc _)).snoc ho2 hgb ⟨_, 1, rfl⟩ (own_alloc (own_one wr _ _ _ _ rfl hwz) _) HAp.out)
            have HL2 : Hid ((L ++ [[j]]).length = k + 1) := Lib.hid (by rw [List.length_append, HLm.out]; rfl)
            clear ho2 hgb HN1 HAp HOut HG1
            go_wp2
            refine ⟨⟨j + 1, A2, d3, vs1 ++ [.slice (some ⟨wr.heap.size, 0, none⟩) 1 1], by omega, by go_num, ?_, ?_, HG3.out⟩, by simp only [intOf]; omega⟩
            · rw [HRt.out, HL2.out]
            · rw [HRt.out]
              exact HN3.out
        · have hL := hyes rfl
          have HL := Lib.hid hL
          clear hno hyes hL
          go_wp2
          all_goals exact ⟨⟨j + 1, A0, c, vs1, by omega, by go_num, by rw [← HL.out, HLm.out], by rw [← HL.out]; exact HN1.out, HG1.out⟩, by simp only [intOf]; omega⟩
    · obtain rfl : j = n := by omega
      have HLen := Lib.hid (clsM_len j (lst E))
      have hle := rootsN_le j (lst E)
      by_cases h0 : j = 0
      · subst h0
        have HZ : Hid (clsM 0 (lst E) = []) := Lib.hid rfl
        rw [HZ.out] at HN ⊢
        by_cases hb : nb = 0
        · subst hb
          cases all
          · go_wp2
            go_ret
            exact ⟨A0, c, rfl, HG.out, HN.out.read⟩
          · have hwz := HG.out.size
            have HAp : Hid (∀ (i : Nat) (v' : Value), vs[i]? = some v' → ∀ b, v'.ownBlock = some b → (Value.slice (some ⟨wr.heap.size, 0, none⟩) 0 0).ownBlock ≠ some b) := Lib.hid fun i v' hv b hb' hb2 => by
              have hi : i < vs.length := (List.getElem?_eq_some_iff.1 hv).1
              have h3 := HN.out.len
              simp at h3
              rw [h3] at hi
              simp at hi
            go_wp2_with (at_builtin; refine wpList_appN rfl (.tmp 70) (.tmp 72) 36 38 rfl w.heap.size (.slice none 0 0) 24 Try.underlying36 infoSl rfl (by decide) _ 0 vs rfl (own_alloc (own_alloc HN.out.outer _) _) _ 1 1 [.slice (some ⟨wr.heap.size, 0, none⟩) 0 0] rfl rfl (row_one _ _ _ _ (by simp)) (by intro u hu; obtain rfl := List.mem_singleton.1 hu; rfl) (by omega) (by simp only [World.size_alloc]; omega) ?_)
            intro A2 d3 w2 ho2 hgb _
            have HG3 := Lib.hid (((HG.out.alloc _).alloc _).grown hgb (own_base HN.out.outer))
            have HN3 : Hid (Nest w2 w.heap.size w.heap.size A2 d3 (vs ++ [.slice (some ⟨wr.heap.size, 0, none⟩) 0 0]) ([] ++ [[]])) := Lib.hid ((HN.out.grew (((Grew.refl wr).alloc _).alloc _)).snoc ho2 hgb ⟨_, 0, rfl⟩ (own_alloc (own_empty wr _ _ _ _ rfl hwz) _) HAp.out)
            clear ho2 hgb HN HAp HG
            go_wp2
            go_ret
            exact ⟨A2, d3, rfl, HG3.out, HN3.out.read⟩
        · have t1 : ((nb : Int) == 0) = false := by rw [beq_eq_false_iff_ne]; omega
          have HGr : Hid (grpL 0 nb all (lst E) = []) := Lib.hid (by unfold grpL; rw [if_pos rfl, if_neg fun h => hb h.1])
          have HR : Hid (NestR wr A0 (grpL 0 nb all (lst E)) ∧ (grpL 0 nb all (lst E)).length = 0) := Lib.hid (by rw [HGr.out]; exact ⟨HN.out.read, rfl⟩)
          go_wp2
          go_ret
          exact ⟨A0, c, by rw [HR.out.2]; rfl, HG.out, HR.out.1⟩
      · have hpos : 0 < (clsM j (lst E)).length := by
          rw [clsM_len]
          have h1 := lst_le E 0
          exact rootsN_pos j _ 0 (by omega) (by omega)
        have HGr : Hid (grpL j nb all (lst E) = clsM j (lst E)) := Lib.hid (by unfold grpL; rw [if_neg h0])
        have HR : Hid (NestR wr A0 (grpL j nb all (lst E)) ∧ (grpL j nb all (lst E)).length = (clsM j (lst E)).length) := Lib.hid (by rw [HGr.out]; exact ⟨HN.out.read, rfl⟩)
        have t1 : (((clsM j (lst E)).length : Int) == 0) = false := by rw [beq_eq_false_iff_ne]; omega
        generalize clsM j (lst E) = L at *
        go_wp2
        go_ret
        exact ⟨A0, c, by rw [HR.out.2]; rfl, HG.out, HR.out.1⟩
end Go.Proofs.Ytfdjnhnchibejaa

/- Layer 1's functions, more: which values may be, and texts as values. Condition where it stands: a length. -/
namespace Go.Proofs.Ytfdjnhnchibejaa
open Go.RowKit
attribute [local go_sem] more_cell more_frozen more_more more_size more_setCell

/-- May the value be? -/
def rightV (k i : Int) (s : ByteArray) : Bool := (k == 0 && (i == 0 && s.toList.isEmpty)) || (k == 1 && s.toList.isEmpty) || (k == 2 && (i == 0 && decide ((s.size : Int) ≤ 65536)))

theorem rightV_text {t : ByteArray} (h : t.size ≤ 65536) : rightV 2 0 t = true := by
  have h1 : (t.size : Int) ≤ 65536 := by omega
  simp [rightV, h1]
theorem empty_size {s : ByteArray} (h : s.toList.isEmpty = true) : s.size = 0 := by
  have h1 : s.toList = [] := by simpa using h
  rw [ByteArray.toList_eq] at h1
  have h2 : s.data.toList.length = s.size := by simp
  rw [h1] at h2
  simpa using h2.symm
set_option maxHeartbeats 400000 in
theorem rright_any (k i : Int) (s : ByteArray) (w : World) :
    Gives Try.prog 109 #[.agg #[.int .i64 k, .int .i64 i, .string s]] w (.bool (rightV k i s)) := by
  unfold Gives
  go_enter Try.func109, Try.ntmps109
  go_wp2
  all_goals
    go_ret
    exact ⟨ret_bool (by simp_all [rightV]), (Grew.refl w).alloc _⟩
end Go.Proofs.Ytfdjnhnchibejaa

/- Layer 14: are all values right ones? Condition: environments that lie in memory that is there. -/
namespace Go.Proofs.Ytfdjnhnchibejaa
open Go.RowKit
attribute [local go_sem] more_cell more_frozen more_more more_setCell more_of_drew more_of_drewN lt_more le_more past_cell past_cell2 past_frozen past_frozen2 past_setCell past_setCell2 mid_cell mid_frozen mid_setCell
attribute [local go_sem ↓] Go.wp_at_zero Go.wp_at_succ

def rightVl (v : Vl) : Bool := rightV v.k v.i v.s
def rightEs (l : List (List (List Vl))) : Bool := l.all fun r => r.all fun s => s.all rightVl
def AllAt {α : Type} (w : World) (l : List α) (p : α → Bool) (i : Value) (wr : World) : Prop := ∃ j : Nat, j ≤ l.length ∧ i = .int .i64 j ∧ Grew w wr ∧ (l.take j).all p = true
theorem allAt_next {α : Type} {l : List α} {p : α → Bool} {j : Nat} (h : j < l.length) (ha : (l.take j).all p = true) (hp : p l[j] = true) : (l.take (j + 1)).all p = true := by
  rw [List.take_succ_eq_append_getElem h, List.all_append, ha]
  simp [hp]
theorem all_false {α : Type} {l : List α} {p : α → Bool} {j : Nat} (h : j < l.length) (hp : p l[j] = false) : l.all p = false := by
  cases hq : l.all p with
  | false => rfl
  | true =>
    have := List.all_eq_true.1 hq _ (List.getElem_mem h)
    rw [hp] at this
    cases this
set_option maxHeartbeats 2000000 in
theorem rright14_any (envs : List (List (List Vl))) (ho : EnvsOk envs) (A : Option Addr) (k0 : Nat) (w : World) (ra : EnvsR (PRow w) A envs) :
    Gives Try.prog 16 #[.slice A envs.length k0] w (.bool (rightEs envs)) := by
  unfold Gives
  obtain ⟨t, ht⟩ : ∃ t, rightEs envs = t := ⟨_, rfl⟩
  rw [ht]
  have HT := Lib.hid ht
  have RA := Lib.hid ra
  have HO := Lib.hid ho
  have hlen := ho.1
  clear ra ho ht
  go_enter Try.func16, Try.ntmps16
  go_wp2
  go_loopw [3] (fun i wr => AllAt w envs (fun r => r.all fun s => s.all rightVl) i wr) (fun i _ => envs.length - (intOf i).toNat)
  case atStart => exact ⟨0, Nat.zero_le _, rfl, Grew.refl _, rfl⟩
  case round =>
    obtain ⟨j, hj, rfl, hg, hall⟩ := hrel
    have HG := Lib.hid hg
    have HAll := Lib.hid hall
    clear hg hall
    by_cases h : j < envs.length
    · obtain ⟨b, o, B, k, rfl, hb', hc', _, hr⟩ := envsR_at RA.out h
      have HC : Hid (∀ W, Grew w W → b < W.heap.size ∧ W.cell? ⟨b, o + j, none⟩ = some (.slice B envs[j].length k)) := Lib.hid fun W hW => ⟨Nat.lt_of_lt_of_le hb' hW.size, (hW.cell (a := ⟨b, o + j, none⟩) hb').trans hc'⟩
      obtain ⟨hb, hc⟩ := HC.out wr HG.out
      have HR := Lib.hid hr
      have HF2 : Hid ((envs[j].all fun s => s.all rightVl) = false → t = false) := Lib.hid fun e => by rw [← HT.out]; exact all_false (p := fun r : List (List Vl) => r.all fun s => s.all rightVl) h e
      have HN2 : Hid ((envs[j].all fun s => s.all rightVl) = true → (envs.take (j + 1)).all (fun r => r.all fun s => s.all rightVl) = true) := Lib.hid fun e => allAt_next h HAll.out e
      have HRo := Lib.hid (HO.out.2 _ (List.getElem_mem h))
      have hrl := HRo.out.1
      clear hr hb' hc' HAll
      generalize envs[j] = r at *
      go_wp2
      obtain ⟨wo, hwo⟩ : ∃ wo : World, wo = wr := ⟨_, rfl⟩
      rw [← hwo] at HG
      go_loopw [4] (fun i wx => AllAt w r (fun s => s.all rightVl) i wx) (fun i _ => r.length - (intOf i).toNat)
      case atStart => exact ⟨0, Nat.zero_le _, rfl, by rw [← hwo]; exact HG.out, rfl⟩
      case round =>
        obtain ⟨q, hq, rfl, hg2, hall2⟩ := hrel
        have HG2 := Lib.hid hg2
        have HAll2 := Lib.hid hall2
        clear hg2 hall2 hb hc hwo
        obtain ⟨hb, hc⟩ := HC.out _ HG2.out
        by_cases h2 : q < r.length
        · obtain ⟨b2, o2, B2, k2, rfl, hb2', hc2', _, hr2⟩ := rwsR_at HR.out h2
          have HC2 : Hid (∀ W, Grew w W → b2 < W.heap.size ∧ W.cell? ⟨b2, o2 + q, none⟩ = some (.slice B2 r[q].length k2)) := Lib.hid fun W hW => ⟨Nat.lt_of_lt_of_le hb2' hW.size, (hW.cell (a := ⟨b2, o2 + q, none⟩) hb2').trans hc2'⟩
          obtain ⟨hb2, hc2⟩ := HC2.out _ HG2.out
          have HR2 := Lib.hid hr2
          have HF3 : Hid ((r[q].all rightVl) = false → t = false) := Lib.hid fun e => HF2.out (all_false (p := fun s : List Vl => s.all rightVl) h2 e)
          have HN3 : Hid ((r[q].all rightVl) = true → (r.take (q + 1)).all (fun s => s.all rightVl) = true) := Lib.hid fun e => allAt_next h2 HAll2.out e
          have hsl := (HRo.out.2 _ (List.getElem_mem h2)).1
          clear hr2 hb2' hc2' HAll2
          generalize r[q] = s at *
          go_wp2
          obtain ⟨wo2, hwo2⟩ : ∃ wo : World, wo = wr := ⟨_, rfl⟩
          rw [← hwo2] at HG2
          go_loopw [5] (fun i wx => AllAt w s rightVl i wx) (fun i _ => s.length - (intOf i).toNat)
          case atStart => exact ⟨0, Nat.zero_le _, rfl, by rw [← hwo2]; exact HG2.out, rfl⟩
          case round =>
            obtain ⟨m, hm, rfl, hg3, hall3⟩ := hrel
            have HG3 := Lib.hid hg3
            have HAll3 := Lib.hid hall3
            clear hg3 hall3 hb hc hb2 hc2 hwo2
            obtain ⟨hb, hc⟩ := HC.out _ HG3.out
            obtain ⟨hb2, hc2⟩ := HC2.out _ HG3.out
            by_cases h3 : m < s.length
            · obtain ⟨b3, o3, rfl, hb3, e0, e1, e2⟩ := vlsR_at (HR2.out.grew HG3.out) h3
              obtain ⟨ts, hts⟩ : ∃ ts, rightVl s[m] = ts := ⟨_, rfl⟩
              have HF4 : Hid (ts = false → t = false) := Lib.hid fun e => HF3.out (all_false (p := rightVl) h3 (by rw [hts, e]))
              have HN4 : Hid (ts = true → (s.take (m + 1)).all rightVl = true) := Lib.hid fun e => allAt_next h3 HAll3.out (by rw [hts, e])
              have HTS := Lib.hid hts
              clear hts HAll3
              generalize s[m] = v at *
              unfold rightVl at HTS
              have HRt : Hid (∀ W, Gives Try.prog 109 #[.agg #[.int .i64 v.k, .int .i64 v.i, .string v.s]] W (.bool ts)) := Lib.hid fun W => by rw [← HTS.out]; exact rright_any _ _ _ _
              cases ts
              · obtain rfl := HF4.out rfl
                go_wp2_with (first | (go_at_call 109; refine (HRt.out _).mono ?_; rintro e w' ⟨rfl, x, rfl⟩))
                go_ret
                exact ⟨rfl, HG3.out.trans (by (show Grew _ _; repeat (first | exact Grew.refl _ | refine Grew.alloc ?_ _ | refine Grew.drew ?_ | refine Grew.more ?_ _)))⟩
              · go_wp2_with (first | (go_at_call 109; refine (HRt.out _).mono ?_; rintro e w' ⟨rfl, x, rfl⟩))
                exact ⟨⟨m + 1, by omega, by go_num, HG3.out.trans (by (show Grew _ _; repeat (first | exact Grew.refl _ | refine Grew.alloc ?_ _ | refine Grew.drew ?_ | refine Grew.more ?_ _))), HN4.out (by first | rfl | trivial)⟩, by simp only [intOf]; omega⟩
            · obtain rfl : m = s.length := by omega
              have HS : Hid ((r.take (q + 1)).all (fun s => s.all rightVl) = true) := Lib.hid (HN3.out (by have := HAll3.out; rwa [List.take_length] at this))
              go_wp2
              exact ⟨⟨q + 1, by omega, by go_num, HG3.out, HS.out⟩, by simp only [intOf]; omega⟩
        · obtain rfl : q = r.length := by omega
          have HS : Hid ((envs.take (j + 1)).all (fun r => r.all fun s => s.all rightVl) = true) := Lib.hid (HN2.out (by have := HAll2.out; rwa [List.take_length] at this))
          go_wp2
          exact ⟨⟨j + 1, by omega, by go_num, HG2.out, HS.out⟩, by simp only [intOf]; omega⟩
    · obtain rfl : j = envs.length := by omega
      have ht : t = true := by
        have h1 := HAll.out
        rw [List.take_length] at h1
        rw [← HT.out]
        exact h1
      subst ht
      go_wp2
      go_ret
      exact ⟨rfl, HG.out⟩
end Go.Proofs.Ytfdjnhnchibejaa

/- Layer 13: what is more than is asked of an environment. Condition: rows that lie in memory that is there. -/
namespace Go.Proofs.Ytfdjnhnchibejaa
open Go.RowKit
attribute [local go_sem] more_cell more_frozen more_more more_setCell more_of_drew more_of_drewN lt_more le_more past_cell past_cell2 past_frozen past_frozen2 past_setCell past_setCell2 mid_cell mid_frozen mid_setCell
attribute [local go_sem ↓] Go.wp_at_zero Go.wp_at_succ

def goodEnv (l : List (List Vl)) : Prop := l.length ≤ 60 ∧ (∀ r ∈ l, r.length ≤ 40) ∧ szRs l ≤ 2000
set_option maxHeartbeats 1000000 in
theorem much13_any (l : List (List Vl)) (hl : RwsOk l) (A : Option Addr) (k0 : Nat) (w : World) (h : RwsR (PRow w) A l) :
    Calls Try.prog 18 #[.slice A l.length k0] w (MuchR w (goodEnv l)) := by
  have HC := Lib.hid h
  have HO := Lib.hid hl
  have hlen := hl.1
  clear h hl
  go_enter Try.func18, Try.ntmps18
  go_wp2
  go_loopw [3, 4] (fun n i wr => Much4At w l n i wr) (fun _ i _ => l.length - (intOf i).toNat)
  case atStart => exact ⟨0, 0, Nat.zero_le _, rfl, rfl, by simp [szRs], by decide, by (show Grew _ _; repeat (first | exact Grew.refl _ | refine Grew.alloc ?_ _ | refine Grew.drew ?_ | refine Grew.more ?_ _)), by simp⟩
  case round =>
    obtain ⟨j, m0, hj, rfl, rfl, hm0, hm2, hg, ha⟩ := hrel
    have HG := Lib.hid hg
    have HA := Lib.hid ha
    have HM := Lib.hid hm0
    clear hg ha hm0
    by_cases h : j < l.length
    · by_cases h70 : j < 70
      · have h70' : (j : Int) < 70 := by omega
        obtain ⟨b, o, B, k2, rfl, hb, hc, hk, hv⟩ := rwsR_at (HC.out.grew HG.out) h
        have HV := Lib.hid hv
        have HS := Lib.hid (szRs_take h)
        have HN := Lib.hid (fun hx => take_all (P := fun r : List Vl => r.length ≤ 40) HA.out h hx)
        have HQ := Lib.hid (HO.out.2 _ (List.getElem_mem h)).2
        have hrl := (HO.out.2 _ (List.getElem_mem h)).1
        clear hv HA
        generalize l[j] = r at *
        obtain ⟨wo, rfl⟩ : ∃ wo : World, wo = wr := ⟨_, rfl⟩
        go_wp2
        go_loop [3, 5] (fun n i => In4At r m0 n i) (fun _ i => r.length - (intOf i).toNat)
        case atStart => exact ⟨0, m0, Nat.zero_le _, rfl, rfl, by simp [szR]⟩
        case round =>
          obtain ⟨q, m, hq, rfl, rfl, hm⟩ := hrel
          have HM2 := Lib.hid hm
          clear hm
          by_cases hqr : q < r.length
          · by_cases h50 : q < 50
            · have h50' : (q : Int) < 50 := by omega
              have hle : m ≤ 10000000000000000 := by
                have := szR_le HQ.out q
                have h3 : q * 140737488355329 ≤ 50 * 140737488355329 := Nat.mul_le_mul_right _ (by omega)
                have := HM2.out
                omega
              obtain ⟨b', o', rfl, hb', _, _, c2⟩ := vlsR_at HV.out hqr
              have hsz := (HQ.out _ (List.getElem_mem hqr)).2.2
              have HT := Lib.hid (szR_take hqr)
              generalize r[q] = v at *
              go_wp2
              exact ⟨⟨q + 1, m + 1 + v.s.size, by omega, by go_num, by go_num, by rw [HT.out, HM2.out]; omega⟩, by simp only [intOf]; omega⟩
            · have h50' : (50 : Int) ≤ q := by omega
              have hn' : (40 : Int) < r.length := by omega
              go_wp2
              go_ret
              exact muchR_true _ HG.out
          · obtain rfl : q = r.length := by omega
            have HM3 : Hid (m = m0 + szR r) := Lib.hid (by have := HM2.out; rwa [List.take_length] at this)
            by_cases hn : 40 < r.length
            · have hn' : (40 : Int) < r.length := by omega
              go_wp2
              go_ret
              exact muchR_true _ HG.out
            · have hn' : (r.length : Int) ≤ 40 := by omega
              by_cases h2k : 2000 < m
              · have h2k' : (2000 : Int) < m := by omega
                go_wp2
                go_ret
                exact muchR_true _ HG.out
              · have h2k' : (m : Int) ≤ 2000 := by omega
                go_wp2
                exact ⟨⟨j + 1, m, by omega, by go_num, rfl, by rw [HS.out, HM3.out, HM.out], by omega, HG.out, HN.out (by omega)⟩, by simp only [intOf]; omega⟩
      · have h70' : (70 : Int) ≤ j := by omega
        have h60 : (60 : Int) < l.length := by omega
        go_wp2
        go_ret
        exact muchR_true _ HG.out
    · obtain rfl : j = l.length := by omega
      have HA2 : Hid ((∀ r ∈ l, r.length ≤ 40) ∧ szRs l ≤ 2000) := Lib.hid (by
        have h1 := HA.out
        have h2 := HM.out
        rw [List.take_length] at h1 h2
        exact ⟨h1, by omega⟩)
      go_wp2
      go_ret
      exact muchR_dec (c := (60 : Int) < l.length) HG.out (fun hc => ⟨by omega, HA2.out⟩)
end Go.Proofs.Ytfdjnhnchibejaa

/- Layer 14: the law of groups. Condition: environments and columns that lie in memory that is there, no part beyond the reach. -/
namespace Go.Proofs.Ytfdjnhnchibejaa
open Go.RowKit
attribute [local go_sem] more_cell more_frozen more_more more_setCell more_of_drew more_of_drewN lt_more le_more past_cell past_cell2 past_frozen past_frozen2 past_setCell past_setCell2 mid_cell mid_frozen mid_setCell
attribute [local go_sem ↓] Go.wp_at_zero Go.wp_at_succ

/-- Two lists of lists, the same. -/
structure TwoL (u : World) (A B : Option Addr) (L : List (List Nat)) (w : World) : Prop where
  one : NestR w A L
  two : NestR w B L
  grew : Grew u w
theorem TwoL.on {u w w' : World} {A B : Option Addr} {L : List (List Nat)} (s : TwoL u A B L w) (m : Grew w w') : TwoL u A B L w' := ⟨s.one.grew m, s.two.grew m, s.grew.trans m⟩
def TwoAt (u : World) (A B : Option Addr) (L : List (List Nat)) (i : Value) (wr : World) : Prop := ∃ j : Nat, j ≤ L.length ∧ i = .int .i64 j ∧ TwoL u A B L wr
def TwoIn (u : World) (A B : Option Addr) (L : List (List Nat)) (l : List Nat) (wo : World) (i : Value) (wr : World) : Prop := ∃ q : Nat, q ≤ l.length ∧ i = .int .i64 q ∧ Grew wo wr ∧ TwoL u A B L wr
def NextAt (u : World) (n : Nat) (i : Value) (wr : World) : Prop := ∃ j : Nat, j ≤ n ∧ i = .int .i64 j ∧ Grew u wr
set_option maxHeartbeats 4000000 in
set_option maxRecDepth 100000 in
theorem aggGroups_walk (envs : List (List (List Vl))) (bs : List Ex) (all : Bool) (A : Option Addr) (ka : Nat) (B : Option Addr) (kb : Nat) (w : World) (ho : EnvsOk envs) (hbl : bs.length ≤ 140737488355328) (ra : EnvsR (PRow w) A envs) (rb : ExsR (PRow w) B bs) :
    Gives Try.prog 3 #[.slice A envs.length ka, .slice B bs.length kb, .bool all] w (.bool true) := by
  have RA := Lib.hid ra
  have RB := Lib.hid rb
  have hel := ho.1
  have HMq : Hid (Calls Try.prog 15 #[.agg #[.slice none 0 0, .slice none 0 0, .int .i64 0, .string ⟨#[]⟩, .string ⟨#[]⟩, .int .i64 0, .int .i64 0, .int .i64 0, .int .i64 0, .string ⟨#[]⟩, .slice none 0 0, .slice B bs.length kb]] w (MuchR w (bs.length ≤ 12))) := Lib.hid
    ((muchq_any [] [] (.mk 0 ⟨#[]⟩ ⟨#[]⟩ 0 0 0 0 ⟨#[]⟩ []) bs none 0 none 0 none 0 B kb w ⟨[], ListR.nil, Or.inl rfl⟩ ⟨[], ListR.nil, Or.inl rfl⟩ ⟨[], ListR.nil, Or.inl rfl⟩ rb).mono fun e w' ⟨t, h1, h2, h3⟩ => ⟨t, h1, h2, fun ht => by have := h3 ht; exact this.group⟩)
  obtain ⟨tr, htr⟩ : ∃ tr, rightEs envs = tr := ⟨_, rfl⟩
  have HRt : Hid (∀ W, Grew w W → Gives Try.prog 16 #[.slice A envs.length ka] W (.bool tr)) := Lib.hid fun W hW => by rw [← htr]; exact rright14_any envs ho A ka W (ra.grew hW)
  have HEnv : Hid (∀ j, j < envs.length → ∃ b o P m k, A = some ⟨b, o, none⟩ ∧ ∀ W, Grew w W → b < W.heap.size ∧ W.cell? ⟨b, o + j, none⟩ = some (.slice P m k) ∧ ∃ Pr, Calls Try.prog 18 #[.slice P m k] W (MuchR W Pr)) := Lib.hid fun j hj => by
    obtain ⟨b, o, P, k, hA, hb, hc, _, hr⟩ := envsR_at ra hj
    exact ⟨b, o, P, _, k, hA, fun W hW => ⟨Nat.lt_of_lt_of_le hb hW.size, (hW.cell (a := ⟨b, o + j, none⟩) hb).trans hc, _, much13_any envs[j] (ho.2 _ (List.getElem_mem hj)) P k W (hr.grew hW)⟩⟩
  have HG1 : Hid (envs.length ≤ 20 → bs.length ≤ 12 → ∀ W, Grew w W → Calls Try.prog 19 #[.slice A envs.length ka, .slice B bs.length kb, .bool all] W (NestF W (grpL envs.length bs.length all (lst (alike envs bs))))) := Lib.hid fun h1 h2 W hW =>
    groups_any envs ho _ rfl h1 bs _ rfl (by omega) A ka B kb all W (ra.grew hW) (rb.grew hW)
  have HG2 : Hid (envs.length ≤ 20 → bs.length ≤ 12 → ∀ W, Grew w W → Calls Try.prog 20 #[.slice A envs.length ka, .slice B bs.length kb, .bool all] W (NestF W (grpL envs.length bs.length all (lst (alike envs bs))))) := Lib.hid fun h1 h2 W hW =>
    rgroups_any envs ho _ rfl h1 bs _ rfl (by omega) A ka B kb all W (ra.grew hW) (rb.grew hW)
  have HLs : Hid (envs.length ≤ 20 → (grpL envs.length bs.length all (lst (alike envs bs))).length ≤ 1000 ∧ ∀ l ∈ grpL envs.length bs.length all (lst (alike envs bs)), l.length ≤ 1000) := Lib.hid fun h => by
    unfold grpL
    split
    · split
      · exact ⟨by simp, fun l hl => by obtain rfl := List.mem_singleton.1 hl; simp⟩
      · exact ⟨by simp, fun l hl => by cases hl⟩
    · rw [clsM_len]
      have h1 := rootsN_le envs.length (lst (alike envs bs))
      refine ⟨by omega, fun l hl => ?_⟩
      unfold clsM at hl
      obtain ⟨q, _, rfl⟩ := List.mem_map.1 hl
      have := clsL_le envs.length q (lst (alike envs bs))
      omega
  clear ra rb htr ho
  generalize grpL envs.length bs.length all (lst (alike envs bs)) = L at *
  generalize envs.length = n at *
  generalize bs.length = nb at *
  unfold Gives
  by_cases h20 : 20 < n
  · have h20' : (20 : Int) < n := by omega
    clear HMq HRt HEnv HG1 HG2 HLs
    go_enter Try.func3, Try.ntmps3
    go_wp2_with (first | (go_at_call 17; refine (live14_any _).mono ?_; rintro e w' ⟨rfl, x, rfl⟩))
    go_ret
    exact ⟨rfl, by (show Grew _ _; repeat (first | exact Grew.refl _ | refine Grew.alloc ?_ _ | refine Grew.drew ?_ | refine Grew.more ?_ _))⟩
  have h20' : (n : Int) ≤ 20 := by omega
  have HLs2 := Lib.hid (HLs.out (by omega))
  have HG1 := Lib.hid (HG1.out (by omega))
  have HG2 := Lib.hid (HG2.out (by omega))
  go_enter Try.func3, Try.ntmps3
  go_wp2_with fail
  refine HMq.out.mono ?_
  rintro e w2 ⟨t1, rfl, hg2, h1⟩
  have HW2 := Lib.hid hg2
  have H1 := Lib.hid h1
  clear hg2 h1 HMq
  cases t1
  rotate_left
  · clear HG1 HG2 HEnv HRt
    go_wp2_with (first | (go_at_call 17; (with_reducible refine (live14_any _).grows.mono ?_); rintro e w6 ⟨rfl, hg6⟩; have G6 := Lib.hid hg6; clear hg6))
    go_ret
    exact ⟨rfl, HW2.out.trans G6.out⟩
  have HG1 := Lib.hid (HG1.out (H1.out (by first | rfl | trivial)))
  have HG2 := Lib.hid (HG2.out (H1.out (by first | rfl | trivial)))
  cases tr
  · go_wp2_with (first | (go_at_call 16; (with_reducible refine (HRt.out _ HW2.out).grows.mono ?_); rintro e w3 ⟨rfl, hg3⟩; have HW3 := Lib.hid (HW2.out.trans hg3); clear hg3) | (go_at_call 17; (with_reducible refine (live14_any _).grows.mono ?_); rintro e w6 ⟨rfl, hg6⟩; have G6 := Lib.hid hg6; clear hg6))
    go_ret
    exact ⟨rfl, HW3.out.trans G6.out⟩
  go_wp2_with (first | (go_at_call 16; (with_reducible refine (HRt.out _ HW2.out).grows.mono ?_); rintro e w3 ⟨rfl, hg3⟩; have HW3 := Lib.hid (HW2.out.trans hg3); clear hg3))
  go_loopw [7] (fun i wr => NextAt w n i wr) (fun i _ => n - (intOf i).toNat)
  case atStart => exact ⟨0, Nat.zero_le _, rfl, HW3.out⟩
  case round =>
    obtain ⟨j, hj, rfl, hg⟩ := hrel
    have HG := Lib.hid hg
    clear hg
    by_cases hjn : j < n
    · obtain ⟨b, o, P, m, k, rfl, hev⟩ := HEnv.out j hjn
      obtain ⟨hb, hc, Pr, hcall⟩ := hev wr HG.out
      have HCall := Lib.hid hcall
      clear hev hcall HEnv HG1 HG2
      go_wp2_with (first | (go_at_call 18; (with_reducible refine HCall.out.mono ?_); rintro e w4 ⟨t, rfl, hg4, _⟩; have HG4 := Lib.hid (HG.out.trans hg4); clear hg4; cases t) | (go_at_call 17; (with_reducible refine (live14_any _).grows.mono ?_); rintro e w6 ⟨rfl, hg6⟩; have G6 := Lib.hid hg6; clear hg6))
      all_goals first
        | exact ⟨⟨j + 1, by omega, by go_num, HG4.out⟩, by simp only [intOf]; omega⟩
        | (go_ret; exact ⟨rfl, HG4.out.trans G6.out⟩)
    · obtain rfl : j = n := by omega
      clear HEnv HRt
      go_wp2_with (first | (go_at_call 19; (with_reducible refine (HG1.out _ HG.out).mono ?_); rintro e w4 ⟨A1, c1, rfl, g4, n4⟩; have HG4 := Lib.hid (HG.out.trans g4); have N4 := Lib.hid n4; clear g4 n4) | (go_at_call 20; (with_reducible refine (HG2.out _ HG4.out).mono ?_); rintro e w5 ⟨A2, c2, rfl, g5, n5⟩; have S5 : Hid (TwoL w A1 A2 L w5) := Lib.hid ⟨N4.out.grew g5, n5, HG4.out.trans g5⟩; clear g5 n5))
      obtain ⟨hLk, hLm⟩ := HLs2.out
      have HLm := Lib.hid hLm
      clear HG1 HG2 HG HG4 N4 HLs HLs2 hLm
      go_loopw [10] (fun i wr => TwoAt w A1 A2 L i wr) (fun i _ => L.length - (intOf i).toNat)
      case atStart => exact ⟨0, Nat.zero_le _, rfl, S5.out⟩
      case round =>
        obtain ⟨q, hq, rfl, s⟩ := hrel
        have HS := Lib.hid s
        clear s S5
        by_cases hjl : q < L.length
        · have HLl := HLm.out _ (List.getElem_mem hjl)
          obtain ⟨b1, o1, B1, c1', rfl, hb1, d1, r1⟩ := HS.out.one.at hjl
          obtain ⟨b2, o2, B2, c2', rfl, hb2, d2, r2⟩ := HS.out.two.at hjl
          have HD : Hid (∀ W, Grew wr W → (b1 < W.heap.size ∧ W.cell? ⟨b1, o1 + q, none⟩ = some (.slice B1 L[q].length c1') ∧ Row W B1 (nL L[q])) ∧ (b2 < W.heap.size ∧ W.cell? ⟨b2, o2 + q, none⟩ = some (.slice B2 L[q].length c2') ∧ Row W B2 (nL L[q]))) := Lib.hid fun W hW => ⟨⟨Nat.lt_of_lt_of_le hb1 hW.size, (hW.cell (a := ⟨b1, o1 + q, none⟩) hb1).trans d1, r1.grew hW⟩, ⟨Nat.lt_of_lt_of_le hb2 hW.size, (hW.cell (a := ⟨b2, o2 + q, none⟩) hb2).trans d2, r2.grew hW⟩⟩
          clear r1 r2 HLm
          generalize L[q] = M at *
          go_wp2
          go_quiet (fail)
          go_wp2
          obtain ⟨wo, hwo⟩ : ∃ wo : World, wo = wr := ⟨_, rfl⟩
          rw [← hwo] at HS HD
          go_loopw [11] (fun i wx => TwoIn w (some ⟨b1, o1, none⟩) (some ⟨b2, o2, none⟩) L M wo i wx) (fun i _ => M.length - (intOf i).toNat)
          case atStart =>
            rw [← hwo]
            exact ⟨0, Nat.zero_le _, rfl, by (show Grew _ _; repeat (first | exact Grew.refl _ | refine Grew.alloc ?_ _ | refine Grew.drew ?_ | refine Grew.more ?_ _)), HS.out.on (by (show Grew _ _; repeat (first | exact Grew.refl _ | refine Grew.alloc ?_ _ | refine Grew.drew ?_ | refine Grew.more ?_ _)))⟩
          case round =>
            obtain ⟨q2, hq2, rfl, hgq, sq⟩ := hrel
            have HSq := Lib.hid sq
            have HGq := Lib.hid hgq
            obtain ⟨⟨f1, f2, f3⟩, ⟨f4, f5, f6⟩⟩ := HD.out _ hgq
            clear sq hgq hb1 hb2 d1 d2 hwo
            by_cases hql : q2 < M.length
            · obtain ⟨x1, y1, rfl, e1, e2⟩ := row_nat f3 hql
              obtain ⟨x2, y2, rfl, e3, e4⟩ := row_nat f6 hql
              clear f3 f6
              generalize M[q2] = mq at *
              go_wp2
              go_quiet (fail)
              go_wp2
              exact ⟨⟨q2 + 1, by omega, by go_num, HGq.out.trans (by (show Grew _ _; repeat (first | exact Grew.refl _ | refine Grew.alloc ?_ _ | refine Grew.drew ?_ | refine Grew.more ?_ _))), HSq.out.on (by (show Grew _ _; repeat (first | exact Grew.refl _ | refine Grew.alloc ?_ _ | refine Grew.drew ?_ | refine Grew.more ?_ _)))⟩, by simp only [intOf]; omega⟩
            · obtain rfl : q2 = M.length := by omega
              clear f3 f6
              go_wp2
              exact ⟨⟨q + 1, by omega, by go_num, HSq.out⟩, by simp only [intOf]; omega⟩
        · obtain rfl : q = L.length := by omega
          go_wp2_with (first | (go_at_call 17; (with_reducible refine (live14_any _).grows.mono ?_); rintro e w6 ⟨rfl, hg6⟩; have G6 := Lib.hid hg6; clear hg6))
          go_ret
          exact ⟨rfl, HS.out.grew.trans G6.out⟩
end Go.Proofs.Ytfdjnhnchibejaa

namespace Go.Proofs.Ytfdjnhnchibejaa.aggGroups
open Go.RowKit Go.ChangeShapes Go.WideShapes Go.ChangeAt Go.Joins

theorem reads : ∀ t ∈ Try.f3.params.toList, Try.prog.readableRec t = true ∧ t < Try.prog.types.size := by
  rw [Try.params3]
  intro t ht
  simp only [List.mem_cons, List.not_mem_nil, or_false] at ht
  rcases ht with rfl | rfl | rfl
  all_goals exact ⟨by kernel_rfl, of_decide_eq_true (by kernel_rfl)⟩

set_option maxRecDepth 100000 in
theorem lifted (os : Os) (started : os.Started) (H : Type) (enc : TypeId × Value → H) :
    ReturnsInHanded {} Try.checked os 3 .any (Rows.aggGroupsSpec.pre6 enc Try.prog Try.f3 Rows.aggGroupsRow.domain false) (Rows.aggGroupsSpec.post enc Try.prog Try.f3 false true false false) := by
  refine returnsInHanded_of_change_sized (C := Try.checked) own started (by kernel_rfl) Try.func3
    (ChangeSpec.witness6 (enc := enc) (C := Try.checked) false ⟨#[], #[.slice none 0 0, .slice none 0 0, .bool false], []⟩ 8 (by kernel_rfl) (by kernel_rfl) (by kernel_rfl) (by kernel_rfl)) ?_
  intro W base args ds gs before hval0 hW hcnd hsz0 _
  have hval : ∀ (j : Nat) t v, Try.f3.params[j]? = some t → args[j]? = some v → Value.okWide Try.prog W .any base t v := hval0
  have hW' := hW
  obtain ⟨p, q, hA0, hV, hpq, hfz, hnd⟩ := hW
  have hA : DataW.TrodAll enc Try.prog W 0 (fun _ => true) true Try.f3.params.toList args.toList ds p := hA0
  rw [Try.params3] at hA hval
  obtain ⟨v0, vs0, d0, ds0, p0, q0, hargs, rfl, rfl, h0, r0⟩ := trodAll_cons hA
  obtain ⟨v1, vs1, d1, ds1, p1, q1, rfl, rfl, rfl, h1, r1⟩ := trodAll_cons r0
  obtain ⟨v2, vs2, d2, ds2, p2, q2, rfl, rfl, rfl, h2, r2⟩ := trodAll_cons r1
  obtain ⟨rfl, rfl, rfl⟩ := trodAll_nil r2
  obtain rfl : args = #[v0, v1, v2] := by cases args; simp_all
  obtain ⟨rfl, rfl⟩ := trodVars_none hV
  have hz : (DataW.weightsEach Try.prog [22, 23, 4] [d0, d1, d2]).all (· ≤ reachBytes) = true := hsz0
  simp only [DataW.weightsEach, List.all_append, List.append_nil, Bool.and_eq_true] at hz
  obtain ⟨zz0, zz1, zz2⟩ := hz
  have o0 := rdw_arg_slice Try.underlying22 rdw_envs (hval 0 22 v0 rfl rfl) h0 zz0
  obtain ⟨l, ⟨lA, lc, el, cl, rl⟩, kl⟩ := o0
  obtain rfl := List.cons.inj el |>.1
  have o1 := rdw_arg_slice Try.underlying23 rdw_exs (hval 1 23 v1 rfl rfl) h1 zz1
  obtain ⟨g, ⟨gA, gc, eg, cg, rg⟩, kg⟩ := o1
  obtain rfl := List.cons.inj eg |>.1
  obtain ⟨a, rfl, rfl, rfl⟩ := open_bool Try.underlying4 (hval 2 4 v2 rfl rfl) h2
  refine (aggGroups_walk l g a lA lc gA gc W kl kg.1 rl rg).mono fun e W' ⟨he, hg⟩ => ?_
  subst he
  exact ⟨_, rfl, law_post hW' rfl rfl Try.underlying4 rfl rfl rfl laid_out reads (Grew.below hg)⟩

theorem over : Rows.aggGroupsRow.holds Try.pinned (OpenSpec.ofChange Rows.aggGroupsSpec) :=
  OpenClaim.holds_of_wide 3 Try.f3 rfl rfl rfl rfl rfl rfl rfl ⟨rfl, rfl, rfl, rfl, rfl⟩ rfl rfl rfl rfl rfl (by kernel_rfl) Try.func3 (by kernel_rfl)
    (of_decide_eq_true (by kernel_rfl)) (by unfold Func.isWrapper; first | (rw [if_pos (by decide +kernel)]; kernel_rfl) | (rw [if_neg (by decide +kernel)]; exact ⟨rfl, rfl⟩))
    (fun os started H enc _ => lifted os started H enc)

theorem proved : Rows.AggGroupsSaid := over

end Go.Proofs.Ytfdjnhnchibejaa.aggGroups
