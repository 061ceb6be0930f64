/- A way to ask that comes in, for the laws' frames. No condition. -/
import Derived.Test.YtcokhgomibimcaaRead
import Derived.Test.YtcokhgomibimcaaAskMath6
namespace Go.Proofs.Ytcokhgomibimcaa
open Go.RowKit Go.ChangeShapes Go.WideShapes Go.ChangeAt
theorem wf_small {x : Int} (h : (Lit.int .i64 x).wf = true) : small64 x := by
  simp [Lit.wf, IntKind.min, IntKind.max, IntKind.bits, IntKind.signed] at h
  exact h
section
variable {H : Type} {enc : TypeId × Value → H} {W : World}
theorem rd_i : Rd enc Try.prog W 3 1 (fun (x : Int) cs => cs = [.int .i64 x] ∧ (Lit.int .i64 x).wf = true) := rd_int Try.underlying3 (by kernel_rfl)
theorem rd_b : Rd enc Try.prog W 4 1 (fun (x : Bool) cs => cs = [.bool x]) := rd_bool Try.underlying4 (by kernel_rfl)
theorem rd_is : Rd enc Try.prog W 23 1 (fun (l : List Int) cs => ∃ A c, cs = [.slice A l.length c] ∧ l.length ≤ maxLen ∧ Row W A (iV l) ∧ ∀ x ∈ l, small64 x) :=
  rd_map (rd_slice Try.underlying23 (by kernel_rfl) (by decide) rd_i) fun l cs ⟨A, c, css, h1, h2, h3, h4⟩ => ⟨A, c, h1, h2, (nums_row h3 h4).1, fun x hx => wf_small ((nums_row h3 h4).2 x hx)⟩
def colNums (c : ColS) : Prop := small64 c.u ∧ small64 c.n ∧ ∀ x ∈ c.m, small64 x
def statNums (s : StatS) : Prop := small64 s.rows ∧ ∀ c ∈ s.cols, colNums c
theorem rd_col : Rd enc Try.prog W 101 3 (fun (c : ColS) cs => ColR (PRow W) c cs ∧ colNums c) :=
  ⟨by kernel_rfl, fun n cs y hl h => by
    obtain ⟨u, h0⟩ := rd_part (i := 0) (o := 0) Try.underlying101 rfl rfl rd_i (by rw [hl]; decide) h
    obtain ⟨k, h1⟩ := rd_part (i := 1) (o := 1) Try.underlying101 rfl rfl rd_i (by rw [hl]; decide) h
    obtain ⟨m, A, c, h2, h3, h4, h5⟩ := rd_part (i := 2) (o := 2) Try.underlying101 rfl rfl rd_is (by rw [hl]; decide) h
    match cs, hl with
    | [a, b, d], _ =>
      simp at h0 h1 h2
      obtain ⟨rfl, w0⟩ := h0
      obtain ⟨rfl, w1⟩ := h1
      subst h2
      exact ⟨⟨u, k, m⟩, ⟨A, c, rfl, h4⟩, wf_small w0, wf_small w1, h5⟩⟩
theorem listR_of {α : Type} {R : α → List Value → Prop} {Q : α → Prop} {size : Nat} {l : List α} {css : List (List Value)} (h : ListR (fun x cs => R x cs ∧ Q x) size l css) : ListR R size l css ∧ ∀ x ∈ l, Q x := by
  refine ⟨h.map fun _ _ h => h.1, fun x hx => ?_⟩
  obtain ⟨i, hi, rfl⟩ := List.getElem_of_mem hx
  exact (h.2 i l[i] (css[i]'(by rw [h.1]; exact hi)) (List.getElem?_eq_getElem hi) (List.getElem?_eq_getElem _)).1.2
theorem rd_cols : Rd enc Try.prog W 95 1 (fun (l : List ColS) cs => ∃ A c, cs = [.slice A l.length c] ∧ ColsR (PRow W) A l ∧ ∀ x ∈ l, colNums x) :=
  rd_map (rd_slice Try.underlying95 (by kernel_rfl) (by decide) rd_col) fun l cs ⟨A, c, css, h1, _, h3, h4⟩ => ⟨A, c, h1, ⟨css, (listR_of h3).1, h4⟩, (listR_of h3).2⟩
theorem rd_stat : Rd enc Try.prog W 97 2 (fun (s : StatS) cs => StatR (PRow W) s cs ∧ statNums s) :=
  ⟨by kernel_rfl, fun n cs y hl h => by
    obtain ⟨u, h0⟩ := rd_part (i := 0) (o := 0) Try.underlying97 rfl rfl rd_i (by rw [hl]; decide) h
    obtain ⟨l, A, c, h1, h2, h3⟩ := rd_part (i := 1) (o := 1) Try.underlying97 rfl rfl rd_cols (by rw [hl]; decide) h
    match cs, hl with
    | [a, b], _ =>
      simp at h0 h1
      obtain ⟨rfl, w0⟩ := h0
      subst h1
      exact ⟨⟨u, l⟩, ⟨A, c, rfl, h2⟩, wf_small w0, h3⟩⟩
theorem rd_stats : Rd enc Try.prog W 35 1 (fun (l : List StatS) cs => ∃ A c, cs = [.slice A l.length c] ∧ StatsR (PRow W) A l ∧ ∀ x ∈ l, statNums x) :=
  rd_map (rd_slice Try.underlying35 (by kernel_rfl) (by decide) rd_stat) fun l cs ⟨A, c, css, h1, _, h3, h4⟩ => ⟨A, c, h1, ⟨css, (listR_of h3).1, h4⟩, (listR_of h3).2⟩
theorem rd_opts : Rd enc Try.prog W 37 6 (fun (o : OptS) cs => cs = [.int .i64 o.o0, .int .i64 o.o1, .int .i64 o.o2, .int .i64 o.o3, .int .i64 o.o4, .int .i64 o.o5] ∧ okO o) :=
  ⟨by kernel_rfl, fun n cs y hl h => by
    obtain ⟨a0, h0⟩ := rd_part (i := 0) (o := 0) Try.underlying37 rfl rfl rd_i (by rw [hl]; decide) h
    obtain ⟨a1, h1⟩ := rd_part (i := 1) (o := 1) Try.underlying37 rfl rfl rd_i (by rw [hl]; decide) h
    obtain ⟨a2, h2⟩ := rd_part (i := 2) (o := 2) Try.underlying37 rfl rfl rd_i (by rw [hl]; decide) h
    obtain ⟨a3, h3⟩ := rd_part (i := 3) (o := 3) Try.underlying37 rfl rfl rd_i (by rw [hl]; decide) h
    obtain ⟨a4, h4⟩ := rd_part (i := 4) (o := 4) Try.underlying37 rfl rfl rd_i (by rw [hl]; decide) h
    obtain ⟨a5, h5⟩ := rd_part (i := 5) (o := 5) Try.underlying37 rfl rfl rd_i (by rw [hl]; decide) h
    match cs, hl with
    | [b0, b1, b2, b3, b4, b5], _ =>
      simp at h0 h1 h2 h3 h4 h5
      obtain ⟨rfl, w0⟩ := h0
      obtain ⟨rfl, w1⟩ := h1
      obtain ⟨rfl, w2⟩ := h2
      obtain ⟨rfl, w3⟩ := h3
      obtain ⟨rfl, w4⟩ := h4
      obtain ⟨rfl, w5⟩ := h5
      exact ⟨⟨a0, a1, a2, a3, a4, a5⟩, rfl, wf_small w0, wf_small w1, wf_small w2, wf_small w3, wf_small w4, wf_small w5⟩⟩
theorem rd_ask : Rd enc Try.prog W 39 9 (fun (a : AskS) cs => ∃ Q P j k, cs = (askCs (.slice Q a.stats.length j) a.force a.o (.slice P a.picks.length k)).toList ∧ StatsR (PRow W) Q a.stats ∧ Row W P (iV a.picks) ∧ numsOk a) :=
  ⟨by kernel_rfl, fun n cs y hl h => by
    obtain ⟨ts, Q, j, h0, s0, s1⟩ := rd_part (i := 0) (o := 0) Try.underlying39 rfl rfl rd_stats (by rw [hl]; decide) h
    obtain ⟨f, h1⟩ := rd_part (i := 1) (o := 1) Try.underlying39 rfl rfl rd_b (by rw [hl]; decide) h
    obtain ⟨o, h2, s2⟩ := rd_part (i := 2) (o := 2) Try.underlying39 rfl rfl rd_opts (by rw [hl]; decide) h
    obtain ⟨l, P, k, h3, _, s3, s4⟩ := rd_part (i := 3) (o := 8) Try.underlying39 rfl rfl rd_is (by rw [hl]; decide) h
    match cs, hl with
    | [b0, b1, b2, b3, b4, b5, b6, b7, b8], _ =>
      simp at h0 h1 h2 h3
      obtain ⟨rfl, rfl, rfl, rfl, rfl, rfl⟩ := h2
      subst h0 h1 h3
      exact ⟨⟨ts, f, o, l⟩, Q, P, j, k, rfl, s0, s3, s2, s4, fun s hs => ⟨(s1 s hs).1, (s1 s hs).2⟩⟩⟩
end
end Go.Proofs.Ytcokhgomibimcaa
