package harm_test

import (
	"math"
	"slices"
	"testing"

	"trommel/api"
	"trommel/deno"
	"trommel/harm"
	"trommel/kind"
	"trommel/name"
	"trommel/norm"
	"trommel/print"
	"trommel/rows"
	"trommel/run"
	"trommel/sample"
)

// v makes a row of numbers, texts, and nil.
var v = sample.Row

func same(a, b [][]api.Val) bool { return slices.EqualFunc(a, b, rows.Same) }

func base() []api.Table {
	cols := []api.Column{{Name: "x", Kind: 1}, {Name: "y", Kind: 1}}
	return []api.Table{
		{Name: "a", Cols: cols, Rows: [][]api.Val{v(1, 10), v(2, 20), v(nil, 30), v(2, 20), v(9, math.MaxInt)}},
		{Name: "b", Cols: cols, Rows: [][]api.Val{v(1, 1), v(2, 2), v(nil, 3), v(5, 4)}},
	}
}

func resolved(t *testing.T, db []api.Table, s string) (api.Query, []api.Table) {
	t.Helper()
	q, e := deno.Ready(db, s)
	if e != api.OK {
		t.Fatal(s, e)
	}
	tables, _ := name.Tables(db, q.From)
	return q, tables
}

// P37.1
func TestWithout(t *testing.T) {
	l := base()
	for table := -1; table < 4; table++ {
		for i := -1; i < 7; i++ {
			got := harm.Without(l, table, i)
			for k, tab := range l {
				want := tab.Rows
				if k == table {
					want = rows.Without(tab.Rows, i)
				}
				if !same(got[k].Rows, want) || got[k].Name != tab.Name || len(got[k].Cols) != 2 {
					t.Error(table, i, k)
				}
				if k == table && len(got[k].Rows) > 0 {
					got[k].Rows[0] = nil
				}
			}
		}
	}
	if !same(l[0].Rows, base()[0].Rows) || !same(l[1].Rows, base()[1].Rows) || len(harm.Without(nil, 0, 0)) != 0 {
		t.Error("what was handed in is another one")
	}
	twice := []api.Table{l[0], l[0]}
	if got := harm.Without(twice, 1, 0); len(got[0].Rows) != 5 || len(got[1].Rows) != 4 {
		t.Error("the table at the place alone")
	}
}

// P37.1
func TestTell(t *testing.T) {
	for _, s := range []string{"select a.x from a join b on a.x = b.x", "select y + 1 from a", "select x, count(*) from a group by x", "select z.x from a z left join a w on z.x < w.x where w.y is null"} {
		q, tables := resolved(t, base(), s)
		want, e := deno.Text(base(), s)
		if got, f := harm.Tell(tables, q); f != e || !same(got, want) {
			t.Error(s, got, f)
		}
	}
}

// P37.1
func TestHarmless(t *testing.T) {
	for _, c := range []struct {
		s    string
		t    int
		want []int // the rows that may go
	}{
		{"select a.x from a join b on a.x = b.x", 0, []int{2, 4}},
		{"select a.x from a join b on a.x = b.x", 1, []int{2, 3}},
		{"select count(*) from a", 0, nil},
		{"select max(x) from a", 0, []int{0, 1, 2, 3}},
		{"select min(x) from a", 0, []int{1, 2, 3, 4}},
		{"select x from a group by x", 0, []int{1, 3}},
		{"select y + 1 from a", 0, []int{0, 1, 2, 3}},
		{"select x from a semi join b on a.x = b.x", 1, []int{2, 3}},
		{"select x from a anti join b on a.x = b.x", 1, []int{2, 3}},
		{"select x from a anti join b on a.x = b.x", 0, []int{0, 1, 3}},
	} {
		q, tables := resolved(t, base(), c.s)
		for i := -1; i < 6; i++ {
			want := i < 0 || i >= len(tables[c.t].Rows) || slices.Contains(c.want, i)
			if harm.Harmless(tables, q, c.t, i) != want {
				t.Error(c.s, c.t, i)
			}
		}
		if !harm.Harmless(tables, q, -1, 0) || !harm.Harmless(tables, q, 9, 0) {
			t.Error("no such table")
		}
	}
}

// P37.2
func TestParts(t *testing.T) {
	for _, c := range []struct {
		s    string
		t    int
		want []int
	}{
		{"select a.x from a join b on a.x = b.x", 0, []int{0, 1, 3}}, {"select a.x from a join b on a.x = b.x", 1, []int{0, 1}}, {"select a.x from a join b on a.x = b.x where a.y < 15", 0, []int{0}},
		{"select a.x from a left join b on a.x = b.x", 1, []int{0, 1}}, {"select a.x from a semi join b on a.x = b.x", 1, nil}, {"select count(*) from a where x is null", 0, []int{2}},
		{"select a.x from a join b on a.x = b.x", 2, nil}, {"select a.x from a join b on a.x = b.x", -1, nil}, {"select y + 1 from a", 0, []int{0, 1, 2, 3, 4}},
	} {
		q, tables := resolved(t, base(), c.s)
		if got := harm.Parts(tables, q, c.t); !slices.Equal(got, c.want) {
			t.Error(c.s, c.t, got)
		}
	}
	if len(harm.Parts(base(), api.Query{From: []api.From{{}}}, 1)) != 0 || len(harm.Parts(nil, api.Query{}, 0)) != 0 {
		t.Error("tables that no environment has")
	}
	odd := []api.Table{{Rows: [][]api.Val{{{Kind: 3}}, {}}}, {Rows: [][]api.Val{{{Kind: 4}}, {}}}}
	if got := harm.Parts(odd, api.Query{From: []api.From{{}, {Join: api.JoinAnti}}}, 1); !slices.Equal(got, []int{1}) {
		t.Error("the same as an empty row", got)
	}
}

// ask: with all filters, or those that seem worth it.
func ask(d *sample.Dice) api.Ask {
	a := api.Ask{Force: d.To(3) > 0, Opts: api.Opts{Seed: d.To(9), Words: d.To(4), Bits: d.To(5), Buckets: 3, Batch: d.To(4), Budget: 1 << 40}}
	for range 5 {
		a.Stats = append(a.Stats, api.Stat{Rows: d.To(50), Cols: []api.ColStat{{Unlike: d.To(50)}, {Unlike: d.To(50)}}})
	}
	for range d.To(9) {
		a.Picks = append(a.Picks, d.To(5))
	}
	return a
}

// P37.2
func TestDropped(t *testing.T) {
	some := 0
	for seed := range 200 {
		d := sample.New(seed)
		db := sample.Tables(d, 6)
		s := sample.Query(d, 1+d.To(4), sample.Joins(seed%2 > 0))
		a := ask(d)
		q, _ := deno.Ready(db, s)
		m, _ := run.Start(db, q, a)
		m.Run(a.Picks)
		got, e := harm.Dropped(db, s, a)
		if e != api.OK || !slices.Equal(got, m.Dropped()) {
			t.Error(s, got, e)
		}
		some += len(got)
		a.Opts.Budget = d.To(9)
		m, _ = run.Start(db, q, a)
		m.Run(a.Picks)
		if got, e = harm.Dropped(db, s, a); e != api.OK || !slices.Equal(got, m.Dropped()) {
			t.Error("whatever Run tells", s, got, e)
		}
	}
	if some < 50 {
		t.Error(some)
	}
	for s, want := range map[string]api.Errno{"select": api.ErrSyntax, "select z from a": api.ErrName, "select x from a where x": api.ErrType, "select x from a where x + 1 = 1": api.ErrLimit} {
		if got, e := harm.Dropped(base(), s, api.Ask{}); e != want || len(got) != 0 {
			t.Error(s, got, e)
		}
	}
}

// P37.2, P37.3: by hand, of tables that are joined by left or anti.
func TestDroppedLate(t *testing.T) {
	a := api.Ask{Force: true, Opts: api.Opts{Words: 64, Bits: 3, Budget: 100}}
	for _, join := range []string{"left", "anti"} {
		s := "select p.x from b q join a p on p.x = q.x " + join + " join a r on r.x = q.x"
		got, e := harm.Dropped(base(), s, a)
		want := []api.Drop{{Table: 1, Row: 2}, {Table: 1, Row: 4}, {Table: 2, Row: 2, Filter: 1}, {Table: 2, Row: 4, Filter: 1}}
		if e != api.OK || !slices.Equal(got, want) {
			t.Error(join, got, e)
		}
		q, tables := resolved(t, base(), s)
		for _, drop := range got {
			if !harm.Harmless(tables, q, drop.Table, drop.Row) {
				t.Error(join, drop)
			}
		}
	}
}

// P37.3, G2
func TestDroppedRowsMayGo(t *testing.T) {
	late := 0
	for seed := range 300 {
		d := sample.New(seed)
		db := sample.Tables(d, 6)
		s := sample.Query(d, 2+d.To(3), sample.Joins(seed%3 > 0))
		drops, e := harm.Dropped(db, s, ask(d))
		q, tables := resolved(t, db, s)
		left := tables
		slices.Reverse(drops) // so that places ahead stay
		for _, drop := range drops {
			if !harm.Harmless(tables, q, drop.Table, drop.Row) {
				t.Error(s, drop)
			}
			if drop.Table >= norm.Core(q) {
				late++
			}
			left = harm.Without(left, drop.Table, drop.Row)
		}
		want, f := harm.Tell(tables, q)
		got, g := harm.Tell(left, q)
		if e != api.OK || f != g || !same(got, want) {
			t.Error("all of them together", s)
		}
	}
	if late < 20 {
		t.Error(late)
	}
}

// P37.3
func TestHarmlessJustIfNoPart(t *testing.T) {
	asked := 0
	for seed := range 400 {
		d := sample.New(seed)
		db := sample.Tables(d, 5)
		q, tables := resolved(t, db, sample.Query(d, 1+d.To(3), sample.Joins(false)))
		if _, e := harm.Tell(tables, q); e != api.OK || kind.Grouped(q) || norm.Core(q) != len(tables) {
			continue
		}
		for table := range tables {
			parts := harm.Parts(tables, q, table)
			for i := range tables[table].Rows {
				asked++
				if harm.Harmless(tables, q, table, i) == slices.Contains(parts, i) {
					t.Fatal(print.Query(q), table, i)
				}
			}
		}
	}
	if asked < 200 {
		t.Error(asked)
	}
}
