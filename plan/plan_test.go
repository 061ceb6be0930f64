package plan_test

import (
	"slices"
	"strconv"
	"strings"
	"testing"

	"trommel/api"
	"trommel/deno"
	"trommel/name"
	"trommel/norm"
	"trommel/order"
	"trommel/place"
	"trommel/plan"
	"trommel/print"
	"trommel/rows"
	"trommel/sample"
	"trommel/tree"
	"trommel/val"
)

func col(t, c int) api.Expr { return api.Expr{Op: api.OpCol, T: t, C: c} }

func ready(t *testing.T, s string) api.Norm {
	t.Helper()
	db := []api.Table{}
	for _, n := range []string{"a", "b", "c", "d", "e"} {
		db = append(db, api.Table{Name: n, Cols: []api.Column{{Name: "x", Kind: 1}, {Name: "y", Kind: 1}, {Name: "z", Kind: 1}}})
	}
	q, e := deno.Ready(db, s)
	if e != api.OK {
		t.Fatal(s, e)
	}
	return norm.Of(q)
}

func ints(l []int) string {
	out := []string{}
	for _, n := range l {
		out = append(out, strconv.Itoa(n))
	}
	return strings.Join(out, ",")
}

func exprs(l []api.Expr) string {
	out := []string{}
	for _, e := range l {
		out = append(out, print.Expr(e))
	}
	return strings.Join(out, "; ")
}

func edges(l []api.Edge) string {
	out := []string{}
	for _, e := range l {
		out = append(out, strconv.Itoa(e.A)+"."+strconv.Itoa(e.AC)+"="+strconv.Itoa(e.B)+"."+strconv.Itoa(e.BC))
	}
	return strings.Join(out, " ")
}

func filter(f api.Filter) string {
	return strconv.Itoa(f.From) + "(" + ints(f.FromCols) + ")" + strconv.Itoa(f.To) + "(" + ints(f.ToCols) + ")"
}

// show writes a plan line by line.
func show(p api.Plan) []string {
	out := []string{"order " + ints(p.Order)}
	for _, f := range p.Filters {
		out = append(out, "filter "+filter(f))
	}
	for _, pipe := range p.Pipes {
		out = append(out, "pipe ["+exprs(pipe.Scan)+"] by ["+ints(pipe.Filters)+"] behind ["+ints(pipe.Needs)+"]")
	}
	out = append(out, "first ["+exprs(p.First)+"]")
	for _, probe := range p.Probes {
		out = append(out, "probe "+strconv.Itoa(probe.Table)+","+strconv.Itoa(probe.Join)+" ["+edges(probe.Keys)+"] ["+exprs(probe.Rest)+"]")
	}
	return append(out, "where ["+exprs(p.Where)+"]")
}

func check(t *testing.T, p api.Plan, want ...string) {
	t.Helper()
	if got := show(p); !slices.Equal(got, want) {
		t.Error(strings.Join(got, "\n"))
	}
}

func wide(t *testing.T) api.Norm {
	t.Helper()
	return ready(t, "select a.x from a join b on a.x = b.y and a.z < b.z and 1 = 1 join c on c.x = b.y and c.y = a.x and (a.x = 1 or c.y = 1) and (a.x = 1 or b.x = 1 or c.x = 1) "+
		"left join d on d.x = a.x and d.y = 1 and d.z < a.z semi join e on e.x = b.y where a.y = 1 and c.z = 2 and d.x = 3 and null")
}

// P32.1
func TestOf(t *testing.T) {
	n := wide(t)
	check(t, plan.Of(n, []int{1, 2, 0}, place.All(n, []int{1, 2, 0})),
		"order 1,2,0",
		"filter 4(0)0(0)", "filter 0(0)1(1)", "filter 2(0)1(1)", "filter 4(0)1(1)", "filter 0(0)2(0)", "filter 4(0)2(0)", "filter 0(0)3(0)", "filter 2(0)3(0)",
		"pipe [a.y = 1] by [0] behind [4]", "pipe [] by [1,2,3] behind [0,2,3,4]", "pipe [c.z = 2] by [4,5] behind [0,4]", "pipe [d.y = 1] by [6,7] behind [0,2]", "pipe [] by [] behind []",
		"first [1 = 1; null]",
		"probe 2,1 [1.1=2.0] []", "probe 0,1 [1.1=0.0 2.1=0.0] [a.z < b.z; a.x = 1 or c.y = 1; a.x = 1 or b.x = 1 or c.x = 1]",
		"probe 3,2 [0.0=3.0] [d.z < a.z]", "probe 4,3 [1.1=4.0] []",
		"where [d.x = 3]")
	check(t, plan.Of(n, []int{0, 1, 2}, nil),
		"order 0,1,2",
		"pipe [a.y = 1] by [] behind [1,2,3,4]", "pipe [] by [] behind []", "pipe [c.z = 2] by [] behind []", "pipe [d.y = 1] by [] behind []", "pipe [] by [] behind []",
		"first [1 = 1; null]",
		"probe 1,1 [0.0=1.1] [a.z < b.z]", "probe 2,1 [1.1=2.0 0.0=2.1] [a.x = 1 or c.y = 1; a.x = 1 or b.x = 1 or c.x = 1]",
		"probe 3,2 [0.0=3.0] [d.z < a.z]", "probe 4,3 [1.1=4.0] []",
		"where [d.x = 3]")
}

// P32.1: pipes of late tables, filtered by what the core keeps.
func TestOfLate(t *testing.T) {
	for word, join := range map[string]string{"left": "2", "anti": "4"} {
		n := ready(t, "select a.x from a join b on a.x = b.x "+word+" join c on c.y = b.x")
		check(t, plan.Of(n, []int{0, 1}, place.All(n, []int{0, 1})),
			"order 0,1", "filter 1(0)0(0)", "filter 1(0)2(1)",
			"pipe [] by [0] behind [1,2]", "pipe [] by [] behind []", "pipe [] by [1] behind [1]",
			"first []", "probe 1,1 [0.0=1.0] []", "probe 2,"+join+" [1.0=2.1] []", "where []")
	}
}

// P32.1
func TestOfOrder(t *testing.T) {
	n := wide(t)
	want := show(plan.Of(n, []int{0, 1, 2}, nil))
	for _, bad := range [][]int{nil, {0, 1}, {2, 1, 1}, {0, 1, 2, 3}, {3, 1, 2}, {0, 1, -1}} {
		if got := show(plan.Of(n, bad, nil)); !slices.Equal(got, want) {
			t.Error(bad, got)
		}
	}
	check(t, plan.Of(ready(t, "select a.x from a join b on a.x = b.y"), []int{1, 0}, nil),
		"order 1,0", "pipe [] by [] behind []", "pipe [] by [] behind [0]", "first []", "probe 0,1 [1.1=0.0] []", "where []")
	check(t, plan.Of(api.Norm{}, nil, nil), "order ", "first []", "where []")
	odd := api.Norm{Rest: []api.Expr{tree.Val(val.Null()), tree.Of(api.OpNot, api.Expr{Op: api.OpCol, Name: "q"})}, Late: []api.Late{{Join: 4}}, Where: []api.Expr{tree.Val(val.Int(1))}}
	check(t, plan.Of(odd, nil, nil), "order ", "pipe [] by [] behind []", "first [null]", "probe 0,4 [] []", "where [1]")
	gone := api.Norm{Scan: make([][]api.Expr, 2), Rest: []api.Expr{col(7, 0), tree.Of(api.OpAnd, col(0, 0), col(5, 0)), col(0, 0), col(-1, 0)}}
	check(t, plan.Of(gone, []int{0, 1}, nil), "order 0,1", "pipe [] by [] behind [1]", "pipe [] by [] behind []", "first []", "probe 1,1 [] []", "where []")
}

// P32.1: just filters that there may be.
func TestOfFilters(t *testing.T) {
	n := wide(t)
	ord := []int{1, 2, 0}
	all := place.All(n, ord)
	odd := []api.Filter{all[3], {From: 4, FromCols: []int{1}, To: 1, ToCols: []int{1}}, {From: 1, FromCols: []int{1}, To: 0, ToCols: []int{0}}, all[0], {}, {From: 3, FromCols: []int{0}, To: 0, ToCols: []int{0}}, all[3]}
	p := plan.Of(n, ord, odd)
	got := []string{}
	for _, f := range p.Filters {
		got = append(got, filter(f))
	}
	if !slices.Equal(got, []string{filter(all[3]), filter(all[0]), filter(all[3])}) {
		t.Error(got)
	}
	if !slices.Equal(p.Pipes[1].Filters, []int{0, 2}) || !slices.Equal(p.Pipes[0].Filters, []int{1}) || !slices.Equal(p.Pipes[0].Needs, []int{4}) {
		t.Error(show(p))
	}
	p.Filters[0].FromCols[0] = 9
	if odd[0].FromCols[0] == 9 || p.Filters[2].FromCols[0] == 9 {
		t.Error("shared")
	}
}

// P32.1: Needs rise, each once, in whatever order filters stand.
func TestNeeds(t *testing.T) {
	n := wide(t)
	ord := []int{1, 2, 0}
	all := place.All(n, ord)
	p := plan.Of(n, ord, []api.Filter{all[5], all[4], all[5], all[4]})
	if !slices.Equal(p.Pipes[2].Filters, []int{0, 1, 2, 3}) || !slices.Equal(p.Pipes[2].Needs, []int{0, 4}) {
		t.Error(show(p))
	}
}

// What is answered is new memory.
func TestOfMemory(t *testing.T) {
	n := wide(t)
	before := strings.Join(show(plan.Of(n, nil, nil)), "\n")
	ord := []int{0, 1, 2}
	p := plan.Of(n, ord, nil)
	p.Order[0] = 7
	p.Where[0], p.Pipes[0].Scan[0], p.Pipes[3].Scan[0], p.Probes[2].Rest[0] = api.Expr{}, api.Expr{}, api.Expr{}, api.Expr{}
	p.Probes[2].Keys[0] = api.Edge{}
	if strings.Join(show(plan.Of(n, nil, nil)), "\n") != before || ord[0] != 0 {
		t.Error("shared")
	}
	p = plan.Of(n, nil, nil)
	probe, _ := plan.Find(p, 3)
	probe.Keys[0], probe.Rest[0] = api.Edge{}, api.Expr{}
	if strings.Join(show(p), "\n") != before {
		t.Error("shared with Find's")
	}
}

// P32.2
func TestMake(t *testing.T) {
	n := wide(t)
	for seed := range 50 {
		d := sample.New(seed)
		var s []api.Stat
		for range 5 {
			s = append(s, api.Stat{Rows: d.To(500), Cols: []api.ColStat{{Unlike: d.To(100)}, {Unlike: d.To(100)}}})
		}
		words, bits := d.To(50), d.To(6)
		ord := order.Pick(n, s)
		if !slices.Equal(show(plan.Make(n, s, words, bits)), show(plan.Of(n, ord, place.Pick(n, s, ord, words, bits)))) {
			t.Error(seed)
		}
	}
}

// P32.2
func TestFind(t *testing.T) {
	p := plan.Of(wide(t), []int{1, 2, 0}, nil)
	if plan.Driver(p) != 1 || plan.Driver(api.Plan{}) != -1 {
		t.Error(plan.Driver(p))
	}
	for place1, want := range map[int][]int{0: {0, 0}, 1: nil, 2: {0}, 3: {0}, 4: {0}, 5: nil, -1: nil} {
		probe, ok := plan.Find(p, place1)
		if ok != (place1 >= 0 && place1 <= 4 && place1 != 1) || ok && probe.Table != place1 || !ok && (probe.Table != 0 || probe.Join != 0 || probe.Keys != nil || probe.Rest != nil) {
			t.Error(place1, probe, ok)
		}
		if got := plan.Keys(p, place1); !slices.Equal(got, want) {
			t.Error(place1, got)
		}
	}
	twice := api.Plan{Probes: []api.Probe{{Table: 3, Join: 1}, {Table: 3, Join: 2, Keys: make([]api.Edge, 1)}}}
	if probe, _ := plan.Find(twice, 3); probe.Join != 1 || len(plan.Keys(twice, 3)) != 0 {
		t.Error("the first one", probe)
	}
}

// v makes a row of numbers, texts, and nil.
var v = sample.Row

var same = sample.SameEnvs

// P32.3: by hand, in order.
func TestEnvs(t *testing.T) {
	tables := []api.Table{{Rows: [][]api.Val{v(1), v(2), v(nil), v(3), v(9)}}, {Rows: [][]api.Val{v(2, 20), v(1, 10), v(2, 21), v(nil, 30), v(3, nil)}}}
	a, b := tables[0].Rows, tables[1].Rows
	below := func(c api.Expr, n int) api.Expr { return tree.Of(api.OpLt, c, tree.Val(val.Int(n))) }
	small := tree.Of(api.OpOr, below(col(0, 0), 9), tree.Of(api.OpIsNull, col(0, 0)))
	base := api.Plan{
		Order: []int{0},
		Pipes: []api.Pipe{{Scan: []api.Expr{small}}, {Scan: []api.Expr{tree.Of(api.OpNotNull, col(1, 1)), tree.Of(api.OpIsNull, col(0, 0))}}},
		First: []api.Expr{tree.Of(api.OpIsNull, col(1, 0))},
	}
	key := []api.Edge{{A: 0, AC: 0, B: 1, BC: 0}}
	for join, want := range map[int][][][]api.Val{
		1: {{a[0], b[1]}, {a[1], b[0]}, {a[1], b[2]}},
		2: {{a[0], b[1]}, {a[1], b[0]}, {a[1], b[2]}, {a[2], nil}, {a[3], nil}},
		3: {{a[0], nil}, {a[1], nil}},
		4: {{a[2], nil}, {a[3], nil}},
		0: {{a[0], b[1]}, {a[1], b[0]}, {a[1], b[2]}},
		7: {{a[0], b[1]}, {a[1], b[0]}, {a[1], b[2]}},
	} {
		p := base
		p.Probes = []api.Probe{{Table: 1, Join: join, Keys: key}}
		if got := plan.Envs(p, tables); !same(got, want) {
			t.Error(join, got)
		}
	}
	p := base
	p.Probes = []api.Probe{{Table: 1, Join: 2, Keys: key, Rest: []api.Expr{below(col(1, 1), 21)}}}
	p.Where = []api.Expr{below(col(0, 0), 3)}
	if got := plan.Envs(p, tables); !same(got, [][][]api.Val{{a[0], b[1]}, {a[1], b[0]}}) {
		t.Error("Rest and Where", got)
	}
	p.First = []api.Expr{tree.Of(api.OpNotNull, col(1, 0))}
	if got := plan.Envs(p, tables); len(got) != 0 {
		t.Error("First", got)
	}
}

// P32.3: what is wanting.
func TestEnvsOdd(t *testing.T) {
	tables := []api.Table{{Rows: [][]api.Val{v(1)}}, {Rows: [][]api.Val{v(1)}}}
	two := make([]api.Pipe, 2)
	one := [][][]api.Val{{v(1), nil}}
	for i, c := range []struct {
		p      api.Plan
		tables []api.Table
		want   [][][]api.Val
	}{
		{api.Plan{}, tables, nil},
		{api.Plan{Pipes: two}, tables, nil},
		{api.Plan{Order: []int{0}, Pipes: two}, tables, one},
		{api.Plan{Order: []int{1}, Pipes: two}, tables[:1], nil},
		{api.Plan{Order: []int{2}, Pipes: two}, append(tables, tables[0]), nil},
		{api.Plan{Order: []int{-1}, Pipes: two}, tables, nil},
		{api.Plan{Order: []int{0}, Pipes: two, Probes: []api.Probe{{Table: 2, Join: 1}}}, append(tables, tables[0]), nil},
		{api.Plan{Order: []int{0}, Pipes: two, Probes: []api.Probe{{Table: 5, Join: 2}, {Table: -1, Join: 4}}}, tables, one},
		{api.Plan{Order: []int{0}, Pipes: two, Probes: []api.Probe{{Table: 1, Join: 1}}}, tables[:1], nil},
		{api.Plan{Order: []int{0}, Pipes: two, Probes: []api.Probe{{Table: 1, Join: 1}}}, tables, [][][]api.Val{{v(1), v(1)}}},
		{api.Plan{Order: []int{0}, Pipes: two, Probes: []api.Probe{{Table: 1, Join: 1, Keys: []api.Edge{{A: 9, B: 1}}}}}, tables, nil},
	} {
		if got := plan.Envs(c.p, c.tables); !same(got, c.want) {
			t.Error(i, got)
		}
	}
}

func bag(l [][][]api.Val, width int) []string {
	var out []string
	for _, e := range l {
		s := ""
		for i := range width {
			s += rows.Key(e[i]) + "|"
		}
		out = append(out, s)
	}
	slices.Sort(out)
	return out
}

// P32.4
func TestSameAsDeno(t *testing.T) {
	some := 0
	for seed := range 600 {
		d := sample.New(seed)
		db := sample.Tables(d, 6)
		q, e := deno.Ready(db, sample.Query(d, 1+d.To(4), sample.Joins(seed%3 > 0)))
		if e != api.OK {
			t.Fatal(e)
		}
		n := norm.Of(q)
		ord := sample.Order(d, n.Core)
		tables, _ := name.Tables(db, q.From)
		p := plan.Of(n, ord, place.All(n, ord))
		got := bag(plan.Envs(p, tables), len(tables))
		want := bag(deno.Where(deno.Envs(tables, q.From), q.Where), len(tables))
		if !slices.Equal(got, want) {
			t.Fatal(print.Query(q), ord)
		}
		if len(got) > 0 {
			some++
		}
	}
	if some < 100 {
		t.Error(some)
	}
}
