package exec_test

import (
	"math"
	"slices"
	"testing"

	"trommel/api"
	"trommel/deno"
	"trommel/eval"
	"trommel/exec"
	"trommel/name"
	"trommel/norm"
	"trommel/place"
	"trommel/plan"
	"trommel/print"
	"trommel/ready"
	"trommel/sample"
	"trommel/sift"
	"trommel/tree"
	"trommel/val"
)

// v makes a row of numbers, texts, and nil.
var v = sample.Row

var same = sample.SameEnvs

func tables() []api.Table {
	cols := []api.Column{{Name: "x", Kind: 1}, {Name: "y", Kind: 1}}
	return []api.Table{
		{Name: "a", Cols: cols, Rows: [][]api.Val{v(1, 10), v(2, 20), v(nil, 30), v(9, 40), v(1, 50)}},
		{Name: "b", Cols: cols, Rows: [][]api.Val{v(1, 1), v(2, 2), v(nil, 3), v(5, 4), v(2, 5)}},
	}
}

// joined: a and b, by x, with all filters; a drives.
func joined(t *testing.T, s string) api.Plan {
	t.Helper()
	q, e := deno.Ready(tables(), s)
	if e != api.OK {
		t.Fatal(s)
	}
	n := norm.Of(q)
	ord := []int{0, 1}[:n.Core]
	return plan.Of(n, ord, place.All(n, ord))
}

func opts(batch, budget int) api.Opts {
	return api.Opts{Seed: 3, Words: 64, Bits: 3, Buckets: 5, Batch: batch, Budget: budget}
}

// P35.1 to P35.4: by hand.
func TestSteps(t *testing.T) {
	p := joined(t, "select a.x from a join b on a.x = b.x where b.y < 5")
	m := exec.Start(p, tables(), opts(2, 100))
	if m.At(-1) != 0 || m.At(2) != 0 || m.At(math.MaxInt) != 0 || m.At(math.MinInt) != 0 {
		t.Error("no such pipe")
	}
	if m.Done() || !slices.Equal(m.Ready(), []int{1}) || m.At(0) != 0 || m.At(1) != 0 || m.Used() != 0 || len(m.Dropped()) != 0 {
		t.Error("nothing is done")
	}
	if _, e := m.Envs(); e != api.ErrState {
		t.Error(e)
	}
	for _, bad := range []int{0, 2, -1, math.MaxInt, math.MinInt} {
		if e := m.Step(bad); e != api.ErrState || m.At(1) != 0 || m.Used() != 0 {
			t.Error(bad, e)
		}
	}
	for i, want := range []struct{ at, used int }{{2, 2}, {4, 4}, {5, 4}} {
		if e := m.Step(1); e != api.OK || m.At(1) != want.at || m.Used() != want.used || m.At(0) != 0 {
			t.Error(i, e, m.At(1), m.Used())
		}
	}
	if e := m.Step(1); e != api.ErrState || !slices.Equal(m.Ready(), []int{0}) || m.Done() {
		t.Error(e, m.Ready())
	}
	if m.Step(0) != api.OK || m.Used() != 6 || m.Step(0) != api.OK || m.Used() != 6 || m.Done() || m.Step(0) != api.OK || m.Used() != 7 || !m.Done() {
		t.Error(m.Used(), m.Done())
	}
	if got := m.Dropped(); !slices.Equal(got, []api.Drop{{Table: 0, Row: 2}, {Table: 0, Row: 3}}) {
		t.Error(got)
	}
	a, b := tables()[0].Rows, tables()[1].Rows
	got, e := m.Envs()
	if e != api.OK || !same(got, [][][]api.Val{{a[0], b[0]}, {a[1], b[1]}, {a[4], b[0]}}) {
		t.Error(got, e)
	}
	got[0] = nil
	m.Dropped()[0].Row = 77
	if again, _ := m.Envs(); again[0] == nil || m.Dropped()[0].Row != 2 {
		t.Error("shared")
	}
	if m.Step(0) != api.ErrState || len(m.Ready()) != 0 {
		t.Error("all is done")
	}
}

// P35.1 to P35.5: nil.
func TestNil(t *testing.T) {
	var m *exec.Machine
	if m.Step(0) != api.ErrNil || m.Run([]int{0}) != api.ErrNil || len(m.Ready()) != 0 || m.Done() || m.At(0) != 0 || m.Used() != 0 || len(m.Dropped()) != 0 {
		t.Error("nil")
	}
	if got, e := m.Envs(); len(got) != 0 || e != api.ErrNil {
		t.Error(got, e)
	}
	z := &exec.Machine{}
	z.Step(0)
	z.Run([]int{0})
	z.Envs()
	z.At(3)
}

// P35.2: a table without rows takes one step.
func TestEmpty(t *testing.T) {
	db := tables()
	db[0].Rows = nil
	m := exec.Start(joined(t, "select x from a"), db, opts(5, 0))
	if m.Done() || m.Step(0) != api.OK || !m.Done() || m.Used() != 0 {
		t.Error("one step of it")
	}
	m = exec.Start(joined(t, "select x from a"), nil, opts(5, 0))
	if got, e := m.Envs(); e != api.ErrState || len(got) != 0 {
		t.Error(e)
	}
	if m.Run(nil) != api.OK {
		t.Error("what is wanting has no rows")
	}
}

// P35.2: what there is no room for.
func TestBudget(t *testing.T) {
	p := joined(t, "select a.x from a join b on a.x = b.x")
	m := exec.Start(p, tables(), opts(2, 3))
	if m.Step(1) != api.OK || m.Used() != 2 {
		t.Error("the first batch")
	}
	if m.Step(1) != api.ErrBudget || m.Used() != 2 || m.At(1) != 2 || !slices.Equal(m.Ready(), []int{1}) || m.Done() {
		t.Error("all stays as it was", m.Used(), m.At(1))
	}
	if m.Step(1) != api.ErrBudget || m.Step(0) != api.ErrBudget || m.Step(-1) != api.ErrBudget || m.Run(nil) != api.ErrBudget {
		t.Error("each step from then on")
	}
	if got, e := m.Envs(); len(got) != 0 || e != api.ErrBudget {
		t.Error(e)
	}
	// b keeps 5 rows; a's batches come to 3, and 1 environments.
	for budget, want := range map[int]api.Errno{math.MinInt: api.ErrBudget, -1: api.ErrBudget, 4: api.ErrBudget, 5: api.ErrBudget, 7: api.ErrBudget, 8: api.ErrBudget, 9: api.OK, math.MaxInt: api.OK} {
		m := exec.Start(p, tables(), opts(2, budget))
		if e := m.Run(nil); e != want {
			t.Error(budget, e)
		}
	}
	m = exec.Start(p, tables(), opts(2, 8))
	m.Run([]int{1, 1, 1, 0, 0})
	if m.Used() != 8 || m.At(0) != 4 || m.Run(nil) != api.ErrBudget || m.Used() != 8 || m.At(0) != 4 || len(m.Dropped()) != 2 {
		t.Error(m.Used(), m.At(0), m.Dropped())
	}
}

// A dropped row of a step that there is no room for is not dropped.
func TestBudgetDropsNothing(t *testing.T) {
	p := joined(t, "select a.x from a join b on a.x = b.x")
	m := exec.Start(p, tables(), opts(5, 5))
	if m.Step(1) != api.OK || m.Step(0) != api.ErrBudget || len(m.Dropped()) != 0 || m.At(0) != 0 {
		t.Error(m.Dropped())
	}
}

// P35.5
func TestRun(t *testing.T) {
	p := joined(t, "select a.x from a join b on a.x = b.x")
	for i, picks := range [][]int{nil, {0, 0, 0}, {1, 0, 1, 7, -3, 1, 0}, {1, 1, 1, 1, 1, 1, 0, 0, 0, 0, 0, 0}} {
		m := exec.Start(p, tables(), opts(2, 100))
		if e := m.Run(picks); e != api.OK || !m.Done() || m.Run(nil) != api.OK {
			t.Error(i, e)
		}
	}
	stuck := api.Plan{Order: []int{0}, Pipes: []api.Pipe{{Needs: []int{1}}, {Needs: []int{0}}}}
	m := exec.Start(stuck, tables(), opts(2, 100))
	if e := m.Run([]int{0, 1}); e != api.ErrState || m.Done() {
		t.Error(e)
	}
}

// P35.5: picks go ahead of all else.
func TestPicksGoAhead(t *testing.T) {
	p := joined(t, "select a.x from a semi join b on a.x = b.x left join b c on c.x = a.x")
	l := append(tables(), tables()[1])
	for pick, want := range map[int][2]int{1: {4, 0}, 2: {0, 4}} {
		m := exec.Start(p, l, opts(2, 4))
		if e := m.Run([]int{0, pick, pick}); e != api.ErrBudget || m.At(1) != want[0] || m.At(2) != want[1] || m.Used() != 4 {
			t.Error(pick, e, m.At(1), m.At(2), m.Used())
		}
	}
}

// model is what a plan keeps, drops, and tells, table by table.
func model(p api.Plan, tables []api.Table, o api.Opts) (kept int, dropped []api.Drop, envs [][][]api.Val) {
	left := slices.Clone(tables)
	for _, t := range ready.Order(p) {
		var l [][]api.Val
		for i, r := range tables[t].Rows {
			if !eval.Holds(p.Pipes[t].Scan, eval.With(nil, t, r)) {
				continue
			}
			by := -1
			for _, f := range p.Pipes[t].Filters {
				of := p.Filters[f]
				s := sift.New(o.Seed, o.Words, o.Bits)
				for _, x := range left[of.From].Rows {
					s = sift.Add(s, sift.Key(x, of.FromCols))
				}
				if by < 0 && !sift.Passes(s, sift.Key(r, of.ToCols)) {
					by = f
				}
			}
			if by >= 0 {
				dropped = append(dropped, api.Drop{Table: t, Row: i, Filter: by})
			} else {
				l = append(l, r)
			}
		}
		left[t].Rows = l
		if t != plan.Driver(p) {
			kept += len(l)
		}
	}
	slices.SortFunc(dropped, func(a, b api.Drop) int {
		if a.Table != b.Table {
			return a.Table - b.Table
		}
		return a.Row - b.Row
	})
	envs = plan.Envs(p, tables)
	return kept + len(envs), dropped, envs
}

// some: a plan of a query, in any order, with any filters.
func some(t *testing.T, seed int) (api.Plan, []api.Table, string, *sample.Dice) {
	t.Helper()
	d := sample.New(seed)
	db := sample.Tables(d, 7)
	q, e := deno.Ready(db, sample.Query(d, 1+d.To(4), sample.Joins(seed%3 > 0)))
	if e != api.OK {
		t.Fatal(e)
	}
	n := norm.Of(q)
	ord := sample.Order(d, n.Core)
	filters := place.All(n, ord)
	filters = slices.DeleteFunc(filters, func(api.Filter) bool { return d.To(4) == 0 })
	tables, _ := name.Tables(db, q.From)
	return plan.Of(n, ord, filters), tables, print.Query(q), d
}

// P35.3, P35.4, P35.6: whatever the picks, batches and buckets.
func TestAgainstModel(t *testing.T) {
	drops, late := 0, 0
	for seed := range 500 {
		p, tables, s, d := some(t, seed)
		o := api.Opts{Seed: d.To(9), Words: d.To(3), Bits: d.To(4), Budget: math.MaxInt}
		used, dropped, envs := model(p, tables, o)
		drops += len(dropped)
		for _, drop := range dropped {
			if drop.Table >= len(p.Order) {
				late++
			}
		}
		for range 3 {
			o.Buckets, o.Batch = d.To(9), d.To(5)
			m := exec.Start(p, tables, o)
			var picks []int
			for range d.To(20) {
				picks = append(picks, d.To(6)-1)
			}
			if e := m.Run(picks); e != api.OK || m.Used() != used || !slices.Equal(m.Dropped(), dropped) {
				t.Fatal(s, e, m.Used(), used, m.Dropped(), dropped)
			}
			if got, e := m.Envs(); e != api.OK || !same(got, envs) {
				t.Fatal(s, got, envs)
			}
			o.Budget = used
			if exec.Start(p, tables, o).Run(picks) != api.OK {
				t.Error("just as much room as is used", s)
			}
			o.Budget = used - 1
			if exec.Start(p, tables, o).Run(picks) != api.ErrBudget {
				t.Error("less room than is used", s)
			}
			o.Budget = math.MaxInt
		}
	}
	if drops < 200 || late < 20 {
		t.Error(drops, late)
	}
}

// P35.6: a pick that is ready moves on, and one that is not changes nothing; all ends within the bound.
func TestPicks(t *testing.T) {
	for seed := range 200 {
		p, tables, s, d := some(t, seed)
		batch, sizes := d.To(4), []int{}
		for _, tab := range tables {
			sizes = append(sizes, len(tab.Rows))
		}
		m := exec.Start(p, tables, api.Opts{Words: 1, Bits: 1, Batch: batch, Budget: math.MaxInt})
		steps := 0
		for !m.Done() {
			l := m.Ready()
			if len(l) == 0 {
				t.Fatal("none is ready", s)
			}
			wrong := d.To(len(p.Pipes))
			if !slices.Contains(l, wrong) && m.Step(wrong) != api.ErrState {
				t.Error("a pick that may not", s)
			}
			pick := l[d.To(len(l))]
			for _, need := range p.Pipes[pick].Needs {
				if m.At(need) != sizes[need] {
					t.Error("asked ahead of being done", s)
				}
			}
			at := m.At(pick)
			if m.Step(pick) != api.OK || m.At(pick) != min(sizes[pick], at+max(1, batch)) {
				t.Error(s, m.At(pick))
			}
			steps++
		}
		if steps != ready.Bound(p, sizes, batch) {
			t.Error(s, steps)
		}
	}
}

// P35.6: rows of all other tables than the first one's, and the environments, are room enough.
func TestRoomEnough(t *testing.T) {
	for seed := range 200 {
		p, tables, s, _ := some(t, seed)
		budget := len(plan.Envs(p, tables))
		for i, tab := range tables {
			if i != plan.Driver(p) {
				budget += len(tab.Rows)
			}
		}
		if e := exec.Start(p, tables, api.Opts{Budget: budget}).Run(nil); e != api.OK {
			t.Error(s, e)
		}
	}
}

// What was handed in is not changed.
func TestKept(t *testing.T) {
	for seed := range 50 {
		p, tables, s, _ := some(t, seed)
		before, l := plan.Envs(p, tables), slices.Clone(tables)
		exec.Start(p, tables, api.Opts{Budget: 1 << 40, Batch: 3}).Run([]int{0, 1, 2})
		if !same(plan.Envs(p, l), before) {
			t.Error(s)
		}
	}
}

// Plans that plan.Of does not tell: all ends, and nothing panics.
func TestOddPlans(t *testing.T) {
	yes := tree.Of(api.OpIsNull, tree.Val(val.Null()))
	for i, p := range []api.Plan{
		{}, {Order: []int{0}}, {Order: []int{5}, Pipes: make([]api.Pipe, 2)}, {Order: []int{-1}, Pipes: make([]api.Pipe, 2)}, {Pipes: make([]api.Pipe, 2)},
		{Order: []int{0}, Pipes: []api.Pipe{{Filters: []int{0, 7, -1}}, {}}, Filters: []api.Filter{{From: 9, To: -4, ToCols: []int{99}}}},
		{Order: []int{0}, Pipes: []api.Pipe{{Filters: []int{0}}, {}}, Filters: []api.Filter{{From: 0, FromCols: []int{9}, To: 0, ToCols: []int{-9}}}},
		{Order: []int{0}, Pipes: []api.Pipe{{}, {}}, Probes: []api.Probe{{Table: -1, Join: 2}, {Table: 99, Join: 2}, {Table: 2, Join: 4}, {Table: math.MinInt, Join: 2}, {Table: 1, Join: 2}, {Table: 0, Join: 4}, {Table: 1, Keys: []api.Edge{{A: -1, AC: 9, B: 7, BC: -7}}}}},
		{Order: []int{1}, Pipes: []api.Pipe{{}, {Needs: []int{0, 0}}}, Probes: []api.Probe{{Table: 0, Rest: []api.Expr{yes}}, {Table: 0, Keys: []api.Edge{{}, {}}, Join: 3}}},
		{Order: []int{0}, Pipes: []api.Pipe{{Needs: []int{0}}, {Needs: []int{9}}}},
	} {
		m := exec.Start(p, tables(), opts(-5, 1000))
		m.Run([]int{0, 1, -1, 5, 0, 0})
		m.Envs()
		m.Dropped()
		if m.Used() < 0 || m.At(1) > 5 {
			t.Error(i)
		}
	}
}
