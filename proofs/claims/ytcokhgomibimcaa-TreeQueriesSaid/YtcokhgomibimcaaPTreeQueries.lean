/- The statement TreeQueriesSaid: for every input the law returns true, and each argument reads as it did. No condition beyond the row's own. -/
import Derived.Test.YtcokhgomibimcaaLawTree3
import Derived.Test.YtcokhgomibimcaaQuery
import Derived.Test.YtcokhgomibimcaaFrame2
namespace Go.Proofs.Ytcokhgomibimcaa.treeQueries
open Go.RowKit Go.ChangeShapes Go.WideShapes Go.ChangeAt Go.Joins

theorem reads : ∀ t ∈ Try.f8.params.toList, Try.prog.readableRec t = true ∧ t < Try.prog.types.size := by
  rw [Try.params8]
  intro t ht
  simp only [List.mem_cons, List.not_mem_nil, or_false] at ht
  rcases ht with rfl | rfl | rfl | rfl | rfl | rfl
  all_goals exact ⟨by kernel_rfl, of_decide_eq_true (by kernel_rfl)⟩

set_option maxRecDepth 100000 in
theorem lifted (os : Os) (started : os.Started) (H : Type) (enc : TypeId × Value → H) :
    ReturnsInHanded {} Try.checked os 8 .any (Rows.treeQueriesSpec.pre6 enc Try.prog Try.f8 Rows.treeQueriesRow.domain false) (Rows.treeQueriesSpec.post enc Try.prog Try.f8 false true false false) := by
  refine returnsInHanded_of_change (C := Try.checked) own started (by kernel_rfl) Try.func8
    (ChangeSpec.witness6 (enc := enc) (C := Try.checked) false ⟨#[], #[.agg #[.slice none 0 0, .slice none 0 0, .int .i64 0, .string ByteArray.empty, .string ByteArray.empty, .int .i64 0, .int .i64 0, .int .i64 0, .int .i64 0, .string ByteArray.empty, .slice none 0 0, .slice none 0 0], .agg #[.slice none 0 0, .slice none 0 0, .int .i64 0, .string ByteArray.empty, .string ByteArray.empty, .int .i64 0, .int .i64 0, .int .i64 0, .int .i64 0, .string ByteArray.empty, .slice none 0 0, .slice none 0 0], .string ByteArray.empty, .string ByteArray.empty, .agg #[.int .i64 0, .int .i64 0, .string ByteArray.empty], .int .i64 0], []⟩ 8 (by kernel_rfl) (by kernel_rfl) (by kernel_rfl) (by kernel_rfl)) ?_
  intro W base args ds gs before hval0 hW hcnd _
  have hval : ∀ (j : Nat) t v, Try.f8.params[j]? = some t → args[j]? = some v → Value.okWide Try.prog W .any base t v := hval0
  have hW' := hW
  obtain ⟨p, q, hA0, hV, hpq, hfz, hnd⟩ := hW
  have hA : DataW.TrodAll enc Try.prog W 0 (fun _ => true) true Try.f8.params.toList args.toList ds p := hA0
  rw [Try.params8] at hA hval
  obtain ⟨v0, vs0, d0, ds0, p0, q0, hargs, rfl, rfl, h0, r0⟩ := trodAll_cons hA
  obtain ⟨v1, vs1, d1, ds1, p1, q1, rfl, rfl, rfl, h1, r1⟩ := trodAll_cons r0
  obtain ⟨v2, vs2, d2, ds2, p2, q2, rfl, rfl, rfl, h2, r2⟩ := trodAll_cons r1
  obtain ⟨v3, vs3, d3, ds3, p3, q3, rfl, rfl, rfl, h3, r3⟩ := trodAll_cons r2
  obtain ⟨v4, vs4, d4, ds4, p4, q4, rfl, rfl, rfl, h4, r4⟩ := trodAll_cons r3
  obtain ⟨v5, vs5, d5, ds5, p5, q5, rfl, rfl, rfl, h5, r5⟩ := trodAll_cons r4
  obtain ⟨rfl, rfl, rfl⟩ := trodAll_nil r5
  obtain rfl : args = #[v0, v1, v2, v3, v4, v5] := by cases args; simp_all
  obtain ⟨rfl, rfl⟩ := trodVars_none hV
  obtain ⟨acs, a, rfl, za, aA, ak, aB, aj, aC, ac, aD, ad, ea, ra1, ra2, ra3, ra4⟩ := rd_arg Try.underlying66 rd_query (hval 0 66 v0 rfl rfl) h0
  obtain rfl : acs = qyC a.items a.src a.wh a.group aA ak aB aj aC ac aD ad := Array.ext' (by rw [ea]; rfl)
  obtain ⟨bcs, b, rfl, zb, bA, bk, bB, bj, bC, bc, bD, bd, eb, rb1, rb2, rb3, rb4⟩ := rd_arg Try.underlying66 rd_query (hval 1 66 v1 rfl rfl) h1
  obtain rfl : bcs = qyC b.items b.src b.wh b.group bA bk bB bj bC bc bD bd := Array.ext' (by rw [eb]; rfl)
  obtain ⟨tab, rfl, rfl, rfl, ztab⟩ := Go.ChangeMaps.open_string Try.underlying9 (hval 2 9 v2 rfl rfl) h2
  obtain ⟨name, rfl, rfl, rfl, zname⟩ := Go.ChangeMaps.open_string Try.underlying9 (hval 3 9 v3 rfl rfl) h3
  obtain ⟨c40, c41, c42, y40, y41, y42, m4, rfl, rfl, rfl, hy40, hy41, hy42⟩ := open_agg3 Try.underlying51 (by kernel_rfl) (by kernel_rfl) (hval 4 51 v4 rfl rfl) h4
  obtain ⟨vK, e40, rfl, wvK⟩ := DataW.trod_int Try.underlying3 hy40
  obtain ⟨vI, e41, rfl, wvI⟩ := DataW.trod_int Try.underlying3 hy41
  obtain ⟨vS, e42, rfl, zv⟩ := DataW.trod_string Try.underlying9 hy42
  simp only [List.cons.injEq, and_true] at e40 e41 e42
  subst e40 e41 e42
  obtain ⟨op, rfl, rfl, rfl, wop⟩ := open_int Try.underlying3 (hval 5 3 v5 rfl rfl) h5
  refine (treeQueries_walk a.items b.items a.src b.src a.wh b.wh a.group b.group aA bA ak bk aB bB aj bj aC bC ac bc aD bD ad bd tab name vK vI vS op W ra1 ra2 ra3 ra4 rb1 rb2 rb3 rb4).mono fun e W' ⟨he, hg⟩ => ?_
  subst he
  exact ⟨_, rfl, law_post hW' rfl rfl Try.underlying4 rfl rfl rfl laid_out reads (Grew.below hg)⟩

theorem over : Rows.treeQueriesRow.holds Try.pinned (OpenSpec.ofChange Rows.treeQueriesSpec) :=
  OpenClaim.holds_of_wide 8 Try.f8 rfl rfl rfl rfl rfl rfl rfl ⟨rfl, rfl, rfl, rfl, rfl⟩ rfl rfl rfl rfl rfl (by kernel_rfl) Try.func8 (by kernel_rfl)
    (of_decide_eq_true (by kernel_rfl)) (by unfold Func.isWrapper; first | (rw [if_pos (by decide +kernel)]; kernel_rfl) | (rw [if_neg (by decide +kernel)]; exact ⟨rfl, rfl⟩))
    (fun os started H enc _ => lifted os started H enc)

theorem proved : Rows.TreeQueriesSaid := over

end Go.Proofs.Ytcokhgomibimcaa.treeQueries
