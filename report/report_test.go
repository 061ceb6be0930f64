package report_test

import (
	"math"
	"strconv"
	"strings"
	"testing"

	"trommel/api"
	"trommel/code"
	"trommel/deno"
	"trommel/harm"
	"trommel/name"
	"trommel/report"
	"trommel/run"
	"trommel/sample"
	"trommel/text"
	"trommel/tree"
	"trommel/val"
)

// P40.1
func TestName(t *testing.T) {
	for e, want := range []string{"ok", "syntax", "name", "type", "limit", "overflow", "budget", "argument", "none", "nil", "state", "?", "?"} {
		if got := report.Name(api.Errno(e)); got != want {
			t.Error(e, got)
		}
	}
	if report.Name(-1) != "?" || report.Name(math.MinInt) != "?" || report.Name(math.MaxInt) != "?" {
		t.Error("others")
	}
}

func ask(force bool, budget int) []byte {
	return code.Put(api.Ask{Force: force, Opts: api.Opts{Seed: 1, Words: 64, Bits: 3, Buckets: 4, Batch: 2, Budget: budget}})
}

const tables = "table a col x int col s text row 1 'p' row 2 'it''s' row null null row 7 'q' table b col x int col y int row 2 20 row 1 10 row 2 21"

// P40.2
func TestAnswer(t *testing.T) {
	for _, c := range []struct {
		tables, query string
		ask           []byte
		want          string
	}{
		{"table t col x int row 4", "select x from t", ask(false, 1), "rows 1\nrow 4\n"},
		{tables, "select s, y from a join b on a.x = b.x", ask(true, 99), "rows 3\nrow 'it''s' 20\nrow 'it''s' 21\nrow 'p' 10\n"},
		{tables, "select x, s from a", ask(false, 99), "rows 4\nrow null null\nrow 1 'p'\nrow 2 'it''s'\nrow 7 'q'\n"},
		{tables, "select x from a where x > 9", ask(false, 99), "rows 0\n"},
		{tables, "select x from a", ask(false, 3), "query budget\n"},
		{tables, "select", ask(false, 3), "query syntax\n"},
		{tables, "select z from a", ask(false, 3), "query name\n"},
		{tables, "select x from a where x", ask(false, 3), "query type\n"},
		{tables, "select x from a where x + 1 = 2", ask(false, 3), "query limit\n"},
		{"table t col x int row 9223372036854775807", "select x + 1 from t", ask(false, 3), "query overflow\n"},
		{tables, "select", []byte{1}, "ask argument\n"},
		{tables, "select", nil, "ask argument\n"},
		{"table t cols", "select", nil, "tables syntax 8\n"},
		{"table t '", "select", nil, "tables syntax 0\n"},
		{"table T col x int", "select", nil, "tables name 0\n"},
		{"table t", "select", nil, "tables limit 0\n"},
		{"table t col x int row 'a'", "select", nil, "tables type 0\n"},
		{"", "select x from t", ask(false, 3), "query name\n"},
	} {
		if got := report.Answer(c.tables, c.query, c.ask); got != c.want {
			t.Errorf("%s | %s: %q", c.tables, c.query, got)
		}
	}
}

// P40.3
func TestExplain(t *testing.T) {
	got := report.Explain(tables, "select s, q.y from a join b q on a.x = q.x and a.x < q.y left join b on b.y = q.y where a.s = 'p' and 1 = 1 and b.x = 2", ask(true, 0))
	want := "drive q\nfilter a 0 to q 0\nscan a where a.s = 'p'\nscan q by 0 behind a behind b\nscan b\nfirst 1 = 1\njoin a on q.0=a.0 and a.x < q.y\nleft b on q.1=b.1\nwhere b.x = 2\n"
	if got != want {
		t.Error(got)
	}
	for _, c := range []struct {
		tables, query string
		ask           []byte
		want          string
	}{
		{tables, "select x from a", ask(false, 0), "drive a\nscan a\n"}, {tables, "select z from a", ask(false, 0), "query name\n"}, {tables, "select", ask(false, 0), "query syntax\n"},
		{tables, "select", nil, "ask argument\n"}, {"x", "select", nil, "tables syntax 0\n"},
	} {
		if got := report.Explain(c.tables, c.query, c.ask); got != c.want {
			t.Errorf("%s | %s: %q", c.tables, c.query, got)
		}
	}
}

// P40.3: rows of tables that are joined by left or anti are lost, too, by keys of the core.
func TestLostLate(t *testing.T) {
	tables := "table a col x int row 1 row 2 table b col x int row 2 row 3 table c col x int row 1 row 2 row null row 5"
	for _, join := range []string{"left", "anti"} {
		s := "select a.x from a join b on a.x = b.x " + join + " join c on c.x = b.x"
		want := "drive b\nfilter a 0 to b 0\nfilter a 0 to c 0\nscan a\nscan b by 0 behind a behind c\nscan c by 1 behind a\njoin a on b.0=a.0\n" + join + " c on b.0=c.0\n"
		if got := report.Explain(tables, s, ask(true, 99)); got != want {
			t.Error(got)
		}
		if got := report.Lost(tables, s, ask(true, 99)); got != "lost b 1 0\nlost c 2 1\nlost c 3 1\n" {
			t.Error(join, got)
		}
	}
}

// P40.3
func TestLost(t *testing.T) {
	if got := report.Lost(tables, "select w.x from a w semi join b on w.x = b.x", ask(true, 99)); got != "lost w 2 0\nlost w 3 0\n" {
		t.Error(got)
	}
	for _, c := range []struct {
		tables, query string
		ask           []byte
		want          string
	}{
		{tables, "select x from a", ask(true, 99), ""}, {tables, "select w.x from a w semi join b on w.x = b.x", ask(true, 2), ""}, {tables, "select x from", ask(true, 0), "query syntax\n"},
		{tables, "select", []byte{9}, "ask argument\n"}, {"table", "select", nil, "tables syntax 5\n"},
	} {
		if got := report.Lost(c.tables, c.query, c.ask); got != c.want {
			t.Errorf("%s | %s: %q", c.tables, c.query, got)
		}
	}
}

// P40.4: plans by hand.
func TestPlan(t *testing.T) {
	q := api.Query{From: []api.From{{Table: "a"}, {Table: "b", As: "c"}}}
	one, two := tree.Val(val.Int(1)), tree.Of(api.OpEq, tree.Col("a", "x"), tree.Val(val.Null()))
	p := api.Plan{
		Order:   []int{1, 0},
		Filters: []api.Filter{{From: 0, FromCols: []int{1, -2}, To: 1, ToCols: []int{3, 4}}, {From: 7, To: -1}},
		Pipes:   []api.Pipe{{Scan: []api.Expr{one, two}, Filters: []int{1, 0}, Needs: []int{1, 5}}, {}, {}},
		First:   []api.Expr{two, one},
		Probes: []api.Probe{
			{Table: 0, Join: 1, Keys: []api.Edge{{A: 1, AC: 2, B: 0, BC: 3}, {A: 9, AC: -1, B: 1}}, Rest: []api.Expr{two, {}}}, {Table: 1, Join: 2}, {Table: 2, Join: 3}, {Table: -1, Join: 4}, {Join: 0}, {Join: 5},
		},
		Where: []api.Expr{one},
	}
	want := strings.Join([]string{
		"drive c",
		"filter a 1 -2 to c 3 4", "filter ? to ?",
		"scan a where 1 where a.x = null by 1 by 0 behind c behind ?", "scan c", "scan ?",
		"first a.x = null", "first 1",
		"join a on c.2=a.3 on ?.-1=c.0 and a.x = null and ?", "left c", "semi ?", "anti ?", "? a", "? a",
		"where 1", "",
	}, "\n")
	if got := report.Plan(q, p); got != want {
		t.Error(got)
	}
	if got := report.Plan(api.Query{}, api.Plan{}); got != "drive ?\n" {
		t.Error(got)
	}
}

// P40.5
func TestTellsWhatIsTold(t *testing.T) {
	lost := 0
	for seed := range 300 {
		d := sample.New(seed)
		db := sample.Tables(d, 6)
		s := sample.Query(d, 1+d.To(4), sample.Joins(seed%3 > 0))
		a := api.Ask{Force: d.To(2) == 0, Opts: api.Opts{Seed: d.To(9), Words: d.To(9), Bits: 2, Batch: d.To(4), Budget: d.To(200)}, Picks: []int{d.To(4), d.To(4)}}
		l, e := deno.Text(db, s)
		want := "query " + report.Name(e) + "\n"
		if e == api.OK {
			want = "rows " + strconv.Itoa(len(l)) + "\n" + text.Rows(l)
		}
		got := report.Answer(text.Put(db), s, code.Put(a))
		if got != want && got != "query budget\n" {
			t.Error(s, got, want)
		}
		if need, _ := run.Need(db, s); got != want && a.Opts.Budget >= need {
			t.Error("room enough", s)
		}
		q, _ := deno.Ready(db, s)
		found, _ := name.Tables(db, q.From)
		drops, _ := harm.Dropped(db, s, a)
		out := ""
		for _, x := range drops {
			lost++
			out += "lost t" + strconv.Itoa(x.Table) + " " + strconv.Itoa(x.Row) + " " + strconv.Itoa(x.Filter) + "\n"
			if !harm.Harmless(found, q, x.Table, x.Row) {
				t.Error(s, x)
			}
		}
		if got := report.Lost(text.Put(db), s, code.Put(a)); got != out {
			t.Error(s, got, out)
		}
	}
	if lost < 50 {
		t.Error(lost)
	}
}
