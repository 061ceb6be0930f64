/- Layer 39: the same way to ask: of one that lies twice. Condition: not more than 10^15 of anything. -/
import Derived.Test.YtcokhgomibimcaaAsk7
import Derived.Test.YtcokhgomibimcaaAsk3
namespace Go.Proofs.Ytcokhgomibimcaa
open Go.RowKit
attribute [local go_sem] more_cell more_frozen more_more more_setCell more_of_drew more_of_drewN lt_more le_more past_cell past_cell2 past_frozen past_frozen2 past_setCell past_setCell2 mid_cell mid_frozen mid_setCell
attribute [local go_sem ↓] Go.wp_at_zero Go.wp_at_succ

def askV (a : AskS) (Q P : Option Addr) (j k : Nat) : Value := .agg #[.slice Q a.stats.length j, .bool a.force, .int .i64 a.o.o0, .int .i64 a.o.o1, .int .i64 a.o.o2, .int .i64 a.o.o3, .int .i64 a.o.o4, .int .i64 a.o.o5, .slice P a.picks.length k]
def smallA (a : AskS) : Prop := smallT a.stats ∧ smallN a.picks.length
set_option maxHeartbeats 4000000 in
set_option maxRecDepth 100000 in
theorem sameask_same (a : AskS) (Q P Q' P' : Option Addr) (j k j' k' : Nat) (hl : smallA a) (w : World) (h1 : StatsR (PRow w) Q a.stats) (h2 : Row w P (iV a.picks)) (h3 : StatsR (PRow w) Q' a.stats) (h4 : Row w P' (iV a.picks)) :
    Gives Try.prog 29 #[askV a Q P j k, askV a Q' P' j' k'] w (.bool true) := by
  unfold Gives askV
  have HA := Lib.hid h1
  have HB := Lib.hid h3
  obtain ⟨ts, f, o, pk⟩ := a
  simp only at *
  have HL : Hid (∀ W, Grew w W → Gives Try.prog 22 #[.slice P pk.length k, .slice P' pk.length k'] W (.bool true)) := Lib.hid fun W hW => by
    have h := samelist_any pk pk P P' k k' W (h2.grew hW) (h4.grew hW) hl.2 hl.2
    rw [decide_eq_true (rfl : pk = pk)] at h
    exact h
  have HS : Hid (∀ (x : StatS), x ∈ ts → ∀ (A B : Option Addr) (p q : Nat) W, ColsR (PRow W) A x.cols → ColsR (PRow W) B x.cols → Gives Try.prog 75 #[.agg #[.int .i64 x.rows, .slice A x.cols.length p], .agg #[.int .i64 x.rows, .slice B x.cols.length q]] W (.bool true)) := Lib.hid fun x hx A B p q W h1 h2 => samestat_same x.rows x.cols A B p q (hl.1.2 x hx) W h1 h2
  have hln : ts.length ≤ 1000000000000000 := hl.1.1
  clear h1 h2 h3 h4 hl
  obtain ⟨o0, o1, o2, o3, o4, o5⟩ := o
  have e1 : (f != f) = false := by simp
  have e2 : ((ts.length : Int) != (ts.length : Int)) = false := by simp
  have hg0 : Grew w ((w.alloc (.cells (askCs (.slice Q ts.length j) f ⟨o0, o1, o2, o3, o4, o5⟩ (.slice P pk.length k)) 39)).alloc (.cells (askCs (.slice Q' ts.length j') f ⟨o0, o1, o2, o3, o4, o5⟩ (.slice P' pk.length k')) 39)) := ((Grew.refl w).alloc _).alloc _
  have b1 := (Blok.new w 39 (askCs (.slice Q ts.length j) f ⟨o0, o1, o2, o3, o4, o5⟩ (.slice P pk.length k)) _ rfl).alloc (.cells (askCs (.slice Q' ts.length j') f ⟨o0, o1, o2, o3, o4, o5⟩ (.slice P' pk.length k')) 39)
  have b2 := Blok.new (w.alloc (.cells (askCs (.slice Q ts.length j) f ⟨o0, o1, o2, o3, o4, o5⟩ (.slice P pk.length k)) 39)) 39 (askCs (.slice Q' ts.length j') f ⟨o0, o1, o2, o3, o4, o5⟩ (.slice P' pk.length k')) (w.heap.size + 1) (by simp)
  have HG0 := Lib.hid hg0
  have B1 := Lib.hid b1
  have B2 := Lib.hid b2
  clear hg0 b1 b2
  go_enter Try.func29, Try.ntmps29
  go_wp2_with (go_at_call 22; (with_reducible refine (HL.out _ (by repeat (first | exact Grew.refl _ | apply Grew.alloc))).grows.mono ?_); rintro e w2 ⟨rfl, hg2⟩; have B1' := Lib.hid (B1.out.grew hg2); have B2' := Lib.hid (B2.out.grew hg2); have HG2 := Lib.hid (HG0.out.trans hg2); have p1 := (B1.out.grew hg2).cell 0; have p2 := (B2.out.grew hg2).cell 0; have l1 := (B1.out.grew hg2).lt; have l2 := (B2.out.grew hg2).lt; simp [askCs] at p1 p2; clear hg2)
  go_loopw [5] (fun i wr => GrowAt w2 ts.length i wr) (fun i _ => ts.length - (intOf i).toNat)
  case atStart => exact ⟨0, Nat.zero_le _, rfl, Grew.refl _⟩
  case round =>
    clear p1 p2 l1 l2
    obtain ⟨i, hi, rfl, hg⟩ := hrel
    have HGj := Lib.hid hg
    have p1 := (B1'.out.grew hg).cell 0
    have p2 := (B2'.out.grew hg).cell 0
    have l1 := (B1'.out.grew hg).lt
    have l2 := (B2'.out.grew hg).lt
    simp [askCs] at p1 p2
    clear hg
    by_cases h : i < ts.length
    · obtain ⟨b, o, A, m, rfl, hb, hr, q0, q1⟩ := statsR_at (HA.out.grew (HG2.out.trans HGj.out)) h
      obtain ⟨b', o', A', m', rfl, hb', hr', q0', q1'⟩ := statsR_at (HB.out.grew (HG2.out.trans HGj.out)) h
      have HR := Lib.hid hr
      have HR' := Lib.hid hr'
      have HM := Lib.hid (List.getElem_mem h)
      generalize ts[i] = x at *
      have HC : Hid (∀ W, Grew wr W → Gives Try.prog 75 #[.agg #[.int .i64 x.rows, .slice A x.cols.length m], .agg #[.int .i64 x.rows, .slice A' x.cols.length m']] W (.bool true)) := Lib.hid fun W hW => HS.out x HM.out A A' m m' W (HR.out.grew hW) (HR'.out.grew hW)
      clear hr hr'
      obtain ⟨rows, cols⟩ := x
      go_wp2
      refine wp_region_more (by kernel_rfl) (by kernel_rfl) ?_
      repeat (go_big_quiet_step (((go_at_call 75; exact (HC.out _ ⟨_, rfl⟩).within))))
      refine wpQuiet_nil ?_
      rintro _ ⟨z, rfl⟩
      go_wp2
      exact ⟨⟨i + 1, by omega, by go_num, HGj.out.more _⟩, by simp only [intOf]; omega⟩
    · obtain rfl : i = ts.length := by omega
      go_wp2
      go_ret
      exact ⟨rfl, HG2.out.trans HGj.out⟩
end Go.Proofs.Ytcokhgomibimcaa
