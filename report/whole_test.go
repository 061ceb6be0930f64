package report_test

import (
	"slices"
	"testing"

	"trommel/api"
	"trommel/arith"
	"trommel/code"
	"trommel/deno"
	"trommel/frac"
	"trommel/gyo"
	"trommel/norm"
	"trommel/parse"
	"trommel/place"
	"trommel/print"
	"trommel/report"
	"trommel/rows"
	"trommel/sample"
	"trommel/text"
	"trommel/token"
	"trommel/tree"
	"trommel/val"
)

// The examples of the whole, of the layers ahead of plans.
func TestExamples(t *testing.T) {
	if n, ok := arith.Add(1<<63-1, 1); n != 0 || ok {
		t.Error("1", n, ok)
	}
	if got := rows.Key([]api.Val{val.Null(), val.Text("a")}); got != "1:n2:ta" {
		t.Error("2", got)
	}
	if got, e := token.All("a.x<=10"); len(got) != 6 || e != api.OK || got[3].Text != "<=" || got[4].Int != 10 || got[5].Kind != api.TokEnd {
		t.Error("3", got, e)
	}
	sum := tree.Of(api.OpAdd, tree.Col("a", "x"), tree.Val(val.Int(1)))
	if got := print.Expr(tree.Of(api.OpMul, sum, tree.Val(val.Int(2)))); got != "(a.x + 1) * 2" {
		t.Error("4", got)
	}
	db := []api.Table{{Name: "t", Cols: []api.Column{{Name: "x", Kind: api.KindInt}}, Rows: [][]api.Val{{val.Int(1)}, {val.Int(2)}, {val.Null()}}}}
	if got, e := deno.Text(db, "select count(*) from t where not x = 1"); e != api.OK || len(got) != 1 || got[0][0] != val.Int(1) {
		t.Error("5", got, e)
	}
	if gyo.Acyclic([][]int{{1, 2}, {2, 3}, {1, 3}}) || !gyo.Acyclic([][]int{{1, 2}, {2, 3}, {1, 3}, {1, 2, 3}}) {
		t.Error("6")
	}
	if frac.Of(0, 0) != 1 || frac.Of(0, -3) != 0 || frac.Scale(10, 0.25) != 3 {
		t.Error("7")
	}
}

// The examples of the whole, of plans and of what stands behind them.
func TestExamplesOfPlans(t *testing.T) {
	db, _, _ := text.Get("table a col x int table b col x int")
	for s, want := range map[string]int{"select a.x from a join b on a.x = b.x": 1, "select a.x from a left join b on a.x = b.x": 0} {
		q, e := deno.Ready(db, s)
		n := norm.Of(q)
		got := place.All(n, []int{0, 1}[:n.Core])
		if e != api.OK || len(got) != want || want == 1 && (got[0].From != 1 || got[0].To != 0) {
			t.Error("8", s, got)
		}
	}
	if got := code.PutInt(nil, -65); !slices.Equal(got, []byte{129, 1}) {
		t.Error("9", got)
	}
	one := code.Put(api.Ask{Opts: api.Opts{Budget: 1}})
	if got := report.Answer("table t col x int row 4", "select x from t", one); got != "rows 1\nrow 4\n" {
		t.Error("10", got)
	}
}

// G5
func TestPrintedTellsTheSame(t *testing.T) {
	for seed := range 300 {
		d := sample.New(seed)
		db := sample.Tables(d, 5)
		s := sample.Query(d, 1+d.To(4), sample.Joins(true))
		want, e := deno.Text(db, s)
		q, _ := parse.Query(s)
		resolved, _ := deno.Ready(db, s)
		for _, again := range []string{print.Query(q), print.Query(resolved)} {
			if got, f := deno.Text(db, again); f != e || !slices.EqualFunc(got, want, rows.Same) {
				t.Error(s, again)
			}
		}
	}
}
