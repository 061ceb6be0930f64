/- Layer 4: rows.Sort, by the library's sort. Condition: rows that lie in memory that is there; no more than a million. -/
import Derived.Test.YtklhledcnijchaaDoorRSort
import Derived.Test.YtklhledcnijchaaDoorGro
import Derived.Test.YtklhledcnijchaaDoorSrt
import Derived.Lib.OwnBridge
import Derived.Lib.AppendIntMem
namespace Go.Proofs.YtklhledcnijchaaDoor
open Go.RowKit Go.Sort
attribute [local go_sem] more_cell more_frozen more_more more_setCell more_of_drew more_of_drewN lt_more le_more past_cell past_cell2 past_frozen past_frozen2 past_setCell past_setCell2 mid_cell mid_frozen mid_setCell
attribute [local go_sem ↓] Go.wp_at_zero Go.wp_at_succ

/-- A row that lies in w, as an element of a list: where, and its values. -/
structure El (w : World) where
  A : Option Addr
  k : Nat
  r : List Vl
  lies : VlsR (PRow w) A r
  less : r.length ≤ 140737488355328
  fits : r.length ≤ k
instance el_some (w : World) : Inhabited (El w) := ⟨⟨none, 0, [], ⟨[], ListR.nil, Or.inl rfl⟩, by decide, by decide⟩⟩
def encE (w : World) (e : El w) : Value := .slice e.A e.r.length e.k
def contE (w : World) (e : El w) : List Vl := e.r
theorem els_of {w : World} : ∀ {l : List (List Vl)} {css : List (List Value)}, ListR (RwR (PRow w)) 1 l css → (∀ r ∈ l, r.length ≤ 140737488355328) → ∃ zs : List (El w), zs.map (contE w) = l ∧ zs.map (encE w) = css.flatten
  | [], css, h, _ => by
    have : css = [] := List.eq_nil_of_length_eq_zero h.1
    subst this
    exact ⟨[], rfl, rfl⟩
  | r :: l, [], h, _ => by have := h.1; simp at this
  | r :: l, cs :: css, h, hb => by
    obtain ⟨⟨A, k, hcs, hk, hv⟩, _⟩ := h.2 0 r cs rfl rfl
    have h2 : ListR (RwR (PRow w)) 1 l css := ⟨by have := h.1; simpa using this, fun i x ds h3 h4 => h.2 (i + 1) x ds (by simpa using h3) (by simpa using h4)⟩
    obtain ⟨zs, z1, z2⟩ := els_of h2 fun x hx => hb x (List.mem_cons_of_mem _ hx)
    refine ⟨(⟨A, k, r, hv, hb r (List.mem_cons_self ..), hk⟩ : El w) :: zs, ?_, ?_⟩
    · rw [List.map_cons, z1]
      rfl
    · rw [List.map_cons, z2, List.flatten_cons, hcs]
      rfl
theorem els_row {w W : World} {A : Option Addr} {zs : List (El w)} (g : Grew w W) (h : Row W A (zs.map (encE w))) : RwsR (PRow W) A (zs.map (contE w)) := by
  refine ⟨zs.map fun e => [encE w e], ⟨by simp, fun i x cs h1 h2 => ?_⟩, ?_⟩
  · rw [List.getElem?_map] at h1 h2
    cases hz : zs[i]? with
    | none => rw [hz] at h1; cases h1
    | some e =>
      rw [hz] at h1 h2
      simp only [Option.map_some, Option.some.injEq] at h1 h2
      subst h1 h2
      exact ⟨⟨e.A, e.k, rfl, e.fits, e.lies.grew g⟩, rfl⟩
  · have e : (zs.map fun e => [encE w e]).flatten = zs.map (encE w) := by
      clear h
      induction zs with
      | nil => rfl
      | cons z zs ih => rw [List.map_cons, List.flatten_cons, ih, List.map_cons]; rfl
    rw [e]
    exact h
theorem sort_grew {w w1 : World} {g n : Nat} {d : Array (El w)} {os : Array Obj} (h : Grew w w1) (hg : w.heap.size ≤ g) : Grew w (sortWorld (encE w) w1 g 0 n d os) := by
  refine Grew.of_below ?_
  have h1 : Below w.heap.size w (putRow (encE w) (Sort.ahead w1 n) g 0 d) := Lib.below_putRow h.below hg
  exact h1.trans (Lib.below_grow w.heap.size _ h1.size 0 os)
set_option maxHeartbeats 2000000 in
set_option maxRecDepth 100000 in
theorem rowsSort_any (l : List (List Vl)) (hl : RwsOk l) (hm : l.length ≤ 1000000) (A : Option Addr) (k : Nat) (w : World) (ra : RwsR (PRow w) A l) :
    Calls Tryd.prog 24 #[.slice A l.length k] w (SortF w l) := by
  obtain ⟨css, h1, h2⟩ := ra
  obtain ⟨zs, z1, z2⟩ := els_of h1 fun r hr => (hl.2 r hr).1
  have hxl : css.flatten.length = l.length := by rw [h1.flat, Nat.mul_one]
  have hone : ∀ u ∈ css.flatten, u.oneCell' = true := h1.one _ fun x cs hx => rwR_one hx
  have HCp : Hid (Calls Tryd.prog 54 #[.slice (some ⟨w.heap.size, 0, none⟩) 1 1] (w.alloc (.cells #[.slice A l.length k] 24)) (MineO (w.alloc (.cells #[.slice A l.length k] 24)) 22 l.length css.flatten)) := Lib.hid (by
    have e1 : lensP [⟨A, l.length, k, css.flatten⟩] = l.length := by simp [lensP]
    have e2 : flatP [⟨A, l.length, k, css.flatten⟩] = css.flatten := by simp [flatP]
    have hx := copied_own [⟨A, l.length, k, css.flatten⟩] 1 rfl (by decide) (by rw [e1]; exact hm) (some ⟨w.heap.size, 0, none⟩) 1 _ (row_new w 24 w.heap.size #[.slice A l.length k] rfl) (by
      intro p hp
      simp only [List.mem_cons, List.not_mem_nil, or_false] at hp
      subst hp
      exact ⟨hxl, h2.grew ((Grew.refl w).alloc _), hone⟩)
    rw [e1, e2] at hx
    exact hx)
  have hzl : zs.length = l.length := by rw [← z1, List.length_map]
  have HSort : Hid (∀ (w1 : World) (g c : Nat), Grew w w1 → w.heap.size ≤ g → w1.ownsRow w.heap.size 22 1 (.slice (some ⟨g, 0, none⟩) l.length c) l.length css.flatten → Calls Tryd.prog 57 #[.slice (some ⟨g, 0, none⟩) l.length c, .func (.func 13) #[] #[]] w1 fun e w' => e = .returned (.tuple #[]) ∧ Grew w w' ∧ RwsR (PRow w') (some ⟨g, 0, none⟩) (sortR l)) := Lib.hid fun w1 g c hg1 hgg ho => by
    rw [← z2] at ho
    obtain ⟨g', cap, hv, _, hlt, _, _, _, hH⟩ := Lib.holds_of_ownsRow ho (by intro h; cases h)
    injection hv with hv1 _ hv3
    injection hv1 with hv1
    injection hv1 with hv1
    subst hv1 hv3
    have hd : zs.toArray.size = l.length := by simpa using hzl
    have hcon := Any.slices_SortFunc Tryd.laysSrt (encE w) (fun _ => rfl) (fun x y => ordRow (contE w x) (contE w y)) (swo_of (contE w)) 13 #[] g 0 c zs.toArray w1 (enters_of Tryd.func13 (by kernel_rfl) rfl)
      (fun m os dk _ x y => rowsOrder_gro x.r y.r x.A y.A x.k y.k x.less _ (x.lies.grew (sort_grew hg1 hgg)) (y.lies.grew (sort_grew hg1 hgg))) hH hlt (by rw [hd]; omega)
    rw [hd] at hcon
    refine hcon.mono ?_
    rintro e w' ⟨he, d', n, os, hp, hs, rfl⟩
    have hgr := sort_grew (n := n) (d := d') (os := os) hg1 hgg
    refine ⟨he, hgr, ?_⟩
    obtain ⟨hp1, _, hp3⟩ := hp
    rw [hd] at hp1
    have hdl : d'.toList.length = l.length := by simpa using hp1
    have hpm : d'.toList.Perm zs := by
      have e1 : (d'.extract 0 l.length).toList = d'.toList := by
        rw [Array.toList_extract, List.extract_eq_take_drop, List.drop_zero, Nat.sub_zero, List.take_of_length_le (by omega)]
      have e2 : (zs.toArray.extract 0 l.length).toList = zs := by
        rw [Array.toList_extract, List.extract_eq_take_drop, List.drop_zero, Nat.sub_zero]
        exact List.take_of_length_le (by simpa using Nat.le_of_eq hzl)
      rwa [e1, e2] at hp3
    have hso : sortR l = d'.toList.map (contE w) := by
      refine (sortR_one ?_ ?_).symm
      · refine List.pairwise_iff_getElem.2 fun i j hi hj hij => ?_
        rw [List.length_map] at hi hj
        have h3 := hs i j (Nat.zero_le _) hij (by omega)
        rw [getElem!_pos d' i (by simpa using hi), getElem!_pos d' j (by simpa using hj), ltR, decide_eq_false_iff_not] at h3
        rw [List.getElem_map, List.getElem_map, Array.getElem_toList, Array.getElem_toList]
        have h4 := oR_anti (contE w d'[i]) (contE w d'[j])
        omega
      · rw [← z1]
        exact hpm.map _
    rw [hso]
    refine els_row hgr ?_
    have hown := Lib.ownsRow_putRow (q := n) (ys := d'.toList) ho hdl (Nat.le_refl _)
    rw [List.take_of_length_le (by omega)] at hown
    have hrow := own_rowS hown
    exact hrow.grew (Gro.grew ⟨0, os, rfl⟩)
  clear h1 h2 z1 z2 hone hxl hl hzl
  generalize css.flatten = M at *
  go_enter Tryd.func24, Tryd.ntmps24
  go_wp2_with fail
  refine HCp.out.mono ?_
  rintro e w1 ⟨g, c, rfl, hc, hgs, hg1, ho1⟩
  have HG1 : Hid (Grew w w1) := Lib.hid (((Grew.refl w).alloc _).trans hg1)
  have hgw : w.heap.size ≤ g := by have := ((Grew.refl w).alloc (.cells #[.slice A l.length k] 24)).size; omega
  have HO1 := Lib.hid (own_le ho1 ((Grew.refl w).alloc (.cells #[.slice A l.length k] 24)).size)
  clear ho1 hg1 hgs HCp
  go_wp2_with fail
  refine (HSort.out w1 g c HG1.out hgw HO1.out).mono ?_
  rintro e w2 ⟨rfl, hg2, hr2⟩
  have HG2 := Lib.hid hg2
  have HR2 := Lib.hid hr2
  clear hg2 hr2 HSort HO1 HG1
  go_wp2
  go_ret
  exact ⟨some ⟨g, 0, none⟩, c, rfl, HG2.out, HR2.out⟩
end Go.Proofs.YtklhledcnijchaaDoor
