package run_test

import (
	"math"
	"slices"
	"testing"

	"trommel/api"
	"trommel/deno"
	"trommel/exec"
	"trommel/hist"
	"trommel/name"
	"trommel/norm"
	"trommel/order"
	"trommel/place"
	"trommel/plan"
	"trommel/rows"
	"trommel/run"
	"trommel/sample"
	"trommel/tree"
	"trommel/val"
)

func same(a, b [][]api.Val) bool { return slices.EqualFunc(a, b, rows.Same) }

func base() []api.Table {
	cols := []api.Column{{Name: "x", Kind: 1}, {Name: "y", Kind: 1}}
	row := func(a, b int) []api.Val { return []api.Val{val.Int(a), val.Int(b)} }
	return []api.Table{
		{Name: "t", Cols: cols, Rows: [][]api.Val{row(1, 10), row(2, 20)}},
		{Name: "u", Cols: cols, Rows: [][]api.Val{row(2, 7), row(2, math.MaxInt), row(3, 8)}},
		{Name: "e", Cols: cols},
	}
}

func wide(budget int) api.Ask {
	return api.Ask{Opts: api.Opts{Words: 8, Bits: 2, Buckets: 4, Batch: 2, Budget: budget}}
}

// P36.2
func TestText(t *testing.T) {
	got, e := run.Text(base(), "select count(*) from t", wide(2))
	if e != api.OK || !same(got, [][]api.Val{{val.Int(2)}}) {
		t.Error(got, e)
	}
	for s, want := range map[string]api.Errno{
		"select":                                     api.ErrSyntax,
		"select z from t":                            api.ErrName,
		"select x from t where x":                    api.ErrType,
		"select x from t where x + 1 = 1":            api.ErrLimit,
		"select y + 1 from u":                        api.ErrOver,
		"select sum(u.y) from t join u on t.x = u.x": api.ErrOver,
	} {
		if got, e := run.Text(base(), s, wide(1000)); e != want || len(got) != 0 {
			t.Error(s, got, e)
		}
		if _, e := run.Text(base(), s, wide(0)); e != want && (want != api.ErrOver || e != api.ErrBudget) {
			t.Error("the budget comes behind the query", s, e)
		}
	}
	if got, e := run.Text(base(), "select count(*) from t", wide(1)); e != api.ErrBudget || len(got) != 0 {
		t.Error(got, e)
	}
	bad := base()
	bad[0].Name = "T"
	if _, e := run.Text(bad, "select", wide(9)); e != api.ErrName {
		t.Error(e)
	}
}

// samePlan compares by what a plan says, part by part.
func samePlan(p, q api.Plan) bool {
	filters := func(f, g api.Filter) bool {
		return f.From == g.From && f.To == g.To && slices.Equal(f.FromCols, g.FromCols) && slices.Equal(f.ToCols, g.ToCols)
	}
	pipes := func(a, b api.Pipe) bool {
		return slices.EqualFunc(a.Scan, b.Scan, tree.Same) && slices.Equal(a.Filters, b.Filters) && slices.Equal(a.Needs, b.Needs)
	}
	probes := func(a, b api.Probe) bool {
		return a.Table == b.Table && a.Join == b.Join && slices.Equal(a.Keys, b.Keys) && slices.EqualFunc(a.Rest, b.Rest, tree.Same)
	}
	return slices.Equal(p.Order, q.Order) && slices.EqualFunc(p.Filters, q.Filters, filters) && slices.EqualFunc(p.Pipes, q.Pipes, pipes) &&
		slices.EqualFunc(p.First, q.First, tree.Same) && slices.EqualFunc(p.Probes, q.Probes, probes) && slices.EqualFunc(p.Where, q.Where, tree.Same)
}

// some: what is said of a query's tables, true or not.
func some(d *sample.Dice, n int) api.Ask {
	a := api.Ask{Force: d.To(2) == 0, Opts: api.Opts{Seed: d.To(100), Words: d.To(5), Bits: d.To(6), Buckets: d.To(9), Batch: d.To(6), Budget: math.MaxInt}}
	for range d.To(n + 1) {
		a.Stats = append(a.Stats, api.Stat{Rows: d.To(400) - 9, Cols: []api.ColStat{{Unlike: d.To(300), Nulls: d.To(40), Marks: []int{d.To(3), d.To(3)}}, {Unlike: d.To(50)}}})
	}
	for range d.To(12) {
		a.Picks = append(a.Picks, d.To(6)-1)
	}
	return a
}

// P36.1
func TestPlan(t *testing.T) {
	force := 0
	for seed := range 200 {
		d := sample.New(seed)
		db := sample.Tables(d, 5)
		s := sample.Query(d, 1+d.To(4), sample.Joins(seed%2 > 0))
		a := some(d, 4)
		q, _ := deno.Ready(db, s)
		n := norm.Of(q)
		ord := order.Pick(n, a.Stats)
		want := plan.Of(n, ord, place.Pick(n, a.Stats, ord, a.Opts.Words, a.Opts.Bits))
		if a.Force {
			want = plan.Of(n, ord, place.All(n, ord))
		}
		got, e := run.Plan(db, s, a)
		if e != api.OK || !samePlan(got, want) {
			t.Error(s, e)
		}
		if a.Force && len(want.Filters) > len(place.Pick(n, a.Stats, ord, a.Opts.Words, a.Opts.Bits)) {
			force++
		}
		m, e := run.Start(db, q, a)
		tables, _ := name.Tables(db, q.From)
		other := exec.Start(want, tables, a.Opts)
		if e != api.OK || m.Run(a.Picks) != other.Run(a.Picks) || m.Used() != other.Used() || !slices.Equal(m.Dropped(), other.Dropped()) {
			t.Error(s, e)
		}
	}
	if force == 0 {
		t.Error("Force plays no part")
	}
	for s, want := range map[string]api.Errno{"select": api.ErrSyntax, "select z from t": api.ErrName, "select x from t where x": api.ErrType} {
		if p, e := run.Plan(base(), s, wide(0)); e != want || !samePlan(p, api.Plan{}) {
			t.Error(s, e)
		}
	}
}

// P36.1
func TestStartWrong(t *testing.T) {
	q, _ := deno.Ready(base(), "select t.x from t join u on t.x = u.x")
	for i, change := range []func(q *api.Query){func(q *api.Query) { q.From[1].Table = "gone" }, func(q *api.Query) { q.From[1].As = "t" }} {
		bad := q
		bad.From = slices.Clone(q.From)
		change(&bad)
		if m, e := run.Start(base(), bad, wide(9)); m != nil || e != api.ErrName {
			t.Error(i, e)
		}
	}
}

// P36.3
func TestNeed(t *testing.T) {
	for s, want := range map[string]int{
		"select x from t": 2 + 2, "select x from u": 3 + 3, "select x from e": 0 + 1, "select t.x from t join u on t.x = u.x": 5 + 6,
		"select t.x from t join u on t.x = u.x left join e on e.x = u.x": 5 + 6, "select a.x from u a join u b on a.x = b.x join t on t.x = b.x": 8 + 18,
	} {
		if got, e := run.Need(base(), s); got != want || e != api.OK {
			t.Error(s, got, e)
		}
	}
	if got, e := run.Need(base(), "select x from gone"); got != 0 || e != api.ErrName {
		t.Error(got, e)
	}
	great := api.Table{Name: "t", Cols: base()[0].Cols[:1], Rows: slices.Repeat([][]api.Val{{val.Null()}}, api.MaxRows)}
	if got, e := run.Need([]api.Table{great}, "select a.x from t a join t b on a.x = b.x join t c on a.x = c.x join t d on a.x = d.x"); got != api.MaxSat || e != api.OK {
		t.Error(got, e)
	}
}

// P36.3
func TestStats(t *testing.T) {
	got, e := run.Stats(base(), "select u.x from u join t a on a.x = u.x semi join u b on b.x = u.x")
	if e != api.OK || len(got) != 3 {
		t.Fatal(got, e)
	}
	for i, tab := range []int{1, 0, 1} {
		if want := hist.Of(base()[tab]); got[i].Rows != want.Rows || len(got[i].Cols) != 2 || got[i].Cols[0].Unlike != want.Cols[0].Unlike || !slices.Equal(got[i].Cols[1].Marks, want.Cols[1].Marks) {
			t.Error(i, got[i])
		}
	}
	if got, e := run.Stats(base(), "select x from"); len(got) != 0 || e != api.ErrSyntax {
		t.Error(got, e)
	}
}

// P36.4, G1, G6
func TestTellsTheSame(t *testing.T) {
	told, budgets := 0, 0
	for seed := range 600 {
		d := sample.New(seed)
		db := sample.Tables(d, 6)
		s := sample.Query(d, 1+d.To(4), sample.Joins(seed%3 > 0))
		want, e := deno.Text(db, s)
		need, _ := run.Need(db, s)
		for range 3 {
			a := some(d, 4)
			a.Opts.Budget = need
			got, f := run.Text(db, s, a)
			if f != e || !same(got, want) {
				t.Fatal(s, got, f, want, e)
			}
			a.Opts.Budget = d.To(need + 1)
			got, f = run.Text(db, s, a)
			if f == api.ErrBudget && len(got) == 0 {
				budgets++
			} else if f != e || !same(got, want) {
				t.Fatal(s, got, f, want, e)
			}
		}
		if len(want) > 0 {
			told++
		}
	}
	if told < 200 || budgets < 200 {
		t.Error(told, budgets)
	}
}

// G6: whatever the order in which the tables' rows stand.
func TestOrderOfRows(t *testing.T) {
	for seed := range 200 {
		d := sample.New(seed)
		db := sample.Tables(d, 6)
		s := sample.Query(d, 1+d.To(4), sample.Joins(true))
		a := some(d, 4)
		want, e := run.Text(db, s, a)
		for i := range db {
			db[i].Rows = slices.Clone(db[i].Rows)
			slices.Reverse(db[i].Rows)
		}
		if got, f := run.Text(db, s, a); f != e || !same(got, want) {
			t.Error(s)
		}
	}
}
