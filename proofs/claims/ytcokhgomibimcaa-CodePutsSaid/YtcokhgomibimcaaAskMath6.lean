/- Layer 39: ways to ask that are not more than is asked: plain mathematics. -/
import Derived.Test.YtcokhgomibimcaaAskMath5
import Derived.Test.YtcokhgomibimcaaMuch
namespace Go.Proofs.Ytcokhgomibimcaa

def numsOk (a : AskS) : Prop := okO a.o ∧ (∀ x ∈ a.picks, small64 x) ∧ ∀ s ∈ a.stats, small64 s.rows ∧ ∀ c ∈ s.cols, small64 c.u ∧ small64 c.n ∧ ∀ x ∈ c.m, small64 x
theorem flat_le {α : Type} (f : α → List Nat) (k : Nat) : ∀ (l : List α), (∀ x ∈ l, (f x).length ≤ k) → ((l.map f).flatten).length ≤ k * l.length
  | [], _ => by simp
  | x :: l, h => by
    have h1 := flat_le f k l (fun y hy => h y (by simp [hy]))
    have h2 := h x (by simp)
    rw [List.map_cons, List.flatten_cons, List.length_append, List.length_cons, Nat.mul_add]
    omega
theorem vbs_up (l : List Int) : (vbs l).length ≤ 10 + 10 * l.length := by
  have h := flat_le (fun n => vb (zz n)) 10 l (fun x _ => (vb_len _).2)
  have h0 := (vb_len (zz (l.length : Int))).2
  unfold vbs
  rw [List.length_append]
  omega
theorem okA_good (a : AskS) (hg : goodA a) (hn : numsOk a) : okA a := by
  obtain ⟨⟨g1, g2⟩, g3⟩ := hg
  obtain ⟨n1, n2, n3⟩ := hn
  have hc : ∀ s ∈ a.stats, ∀ c ∈ s.cols, okC c := fun s hs c hc => ⟨((n3 s hs).2 c hc).1, ((n3 s hs).2 c hc).2.1, ((n3 s hs).2 c hc).2.2, by have := (g2 s hs).2 c hc; omega⟩
  have ht : ∀ s ∈ a.stats, okT s := fun s hs => ⟨(n3 s hs).1, by have := (g2 s hs).1; omega, hc s hs⟩
  refine ⟨ht, by omega, n1, n2, by omega, ?_⟩
  have hpc : ∀ s ∈ a.stats, ∀ c ∈ s.cols, (putC c).length ≤ 630 := fun s hs c hc => by
    have h1 := (g2 s hs).2 c hc
    have h2 := vbs_up c.m
    have h3 := (vb_len (zz c.u)).2
    have h4 := (vb_len (zz c.n)).2
    unfold putC
    rw [List.length_append, List.length_append]
    omega
  have hpt : ∀ s ∈ a.stats, (putT s).length ≤ 18920 := fun s hs => by
    have h1 := flat_le putC 630 s.cols (hpc s hs)
    have h2 := (g2 s hs).1
    have h3 := (vb_len (zz s.rows)).2
    have h4 := (vb_len (zz (s.cols.length : Int))).2
    unfold putT putCs
    rw [List.length_append, List.length_append]
    omega
  have h1 := flat_le putT 18920 a.stats hpt
  have h2 := (vb_len (zz (forceI a.force))).2
  have h3 := (vb_len (zz a.o.o0)).2
  have h4 := (vb_len (zz a.o.o1)).2
  have h5 := (vb_len (zz a.o.o2)).2
  have h6 := (vb_len (zz a.o.o3)).2
  have h7 := (vb_len (zz a.o.o4)).2
  have h8 := (vb_len (zz a.o.o5)).2
  have h9 := (vb_len (zz (a.stats.length : Int))).2
  have h10 := vbs_up a.picks
  unfold putA putO putTs
  simp only [List.length_append]
  omega
theorem small_good (a : AskS) (hg : goodA a) : smallA a := by
  obtain ⟨⟨g1, g2⟩, g3⟩ := hg
  refine ⟨⟨(by omega : a.stats.length ≤ 1000000000000000), fun s hs => ⟨?_, fun c hc => ?_⟩⟩, (by omega : a.picks.length ≤ 1000000000000000)⟩
  · have := (g2 s hs).1
    exact (by omega : s.cols.length ≤ 1000000000000000)
  · have := (g2 s hs).2 c hc
    exact (by omega : c.m.length ≤ 1000000000000000)
theorem vb_ok (n : Int) (h : small64 n) : bytesOk (vb (zz n)) := vb_byte _ (zz_lt n h.1 h.2)
theorem ok_append {a b : List Nat} (h : bytesOk a) (k : bytesOk b) : bytesOk (a ++ b) := fun x hx => (List.mem_append.1 hx).elim (h x) (k x)
theorem ok_flat {α : Type} (f : α → List Nat) (l : List α) (h : ∀ x ∈ l, bytesOk (f x)) : bytesOk (l.map f).flatten := by
  intro x hx
  obtain ⟨c, hc, hxc⟩ := List.mem_flatten.1 hx
  obtain ⟨y, hy, rfl⟩ := List.mem_map.1 hc
  exact h y hy x hxc
theorem len_ok {n : Nat} (h : n ≤ 10000) : small64 (n : Int) := ⟨by omega, by omega⟩
theorem vbs_ok (l : List Int) (h : ∀ x ∈ l, small64 x) (hl : l.length ≤ 10000) : bytesOk (vbs l) := by
  unfold vbs
  exact ok_append (vb_ok _ (len_ok hl)) (ok_flat _ l fun x hx => vb_ok x (h x hx))
theorem putA_ok (a : AskS) (h : okA a) : bytesOk (putA a) := by
  obtain ⟨k1, k2, ⟨o0, o1, o2, o3, o4, o5⟩, k4, k5, _⟩ := h
  unfold putA putO putTs
  refine ok_append (vb_ok _ (by cases a.force <;> exact ⟨by decide, by decide⟩)) (ok_append ?_ (ok_append (vbs_ok _ k4 k5) (ok_append (vb_ok _ (len_ok k2)) (ok_flat _ _ fun s hs => ?_))))
  · exact ok_append (vb_ok _ o0) (ok_append (vb_ok _ o1) (ok_append (vb_ok _ o2) (ok_append (vb_ok _ o3) (ok_append (vb_ok _ o4) (vb_ok _ o5)))))
  · obtain ⟨t1, t2, t3⟩ := k1 s hs
    unfold putT putCs
    refine ok_append (vb_ok _ t1) (ok_append (vb_ok _ (len_ok t2)) (ok_flat _ _ fun c hc => ?_))
    obtain ⟨c1, c2, c3, c4⟩ := t3 c hc
    unfold putC
    exact ok_append (vb_ok _ c1) (ok_append (vb_ok _ c2) (vbs_ok _ c3 c4))
end Go.Proofs.Ytcokhgomibimcaa
