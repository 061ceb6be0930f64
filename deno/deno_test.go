package deno_test

import (
	"math"
	"slices"
	"strings"
	"testing"

	"trommel/api"
	"trommel/deno"
	"trommel/eval"
	"trommel/kind"
	"trommel/logic"
	"trommel/name"
	"trommel/parse"
	"trommel/print"
	"trommel/sample"
	"trommel/schema"
	"trommel/tree"
	"trommel/val"
)

// v makes a row of numbers, texts, and nil.
var v = sample.Row

func table(name, cols string, l ...[]api.Val) api.Table {
	t := api.Table{Name: name, Rows: l}
	for _, c := range strings.Fields(cols) {
		k := api.KindInt
		if c == "s" {
			k = api.KindText
		}
		t.Cols = append(t.Cols, api.Column{Name: c, Kind: k})
	}
	return t
}

// base: t (x s), u (x y), e (x), the last one without rows.
func base() []api.Table {
	return []api.Table{
		table("t", "x s", v(1, "a"), v(2, "b"), v(nil, "c")),
		table("u", "x y", v(2, 20), v(1, 10), v(2, 21), v(nil, 30), v(5, math.MaxInt)),
		table("e", "x"),
	}
}

func text(l [][]api.Val) string {
	out := ""
	for _, r := range l {
		for _, x := range r {
			out += print.Val(x) + " "
		}
		out += "| "
	}
	return strings.TrimSpace(out)
}

// P15.4, and what queries tell.
func TestText(t *testing.T) {
	for s, want := range map[string]string{
		"select count(*) from t where not x = 1":                                        "1 |",
		"select x, s from t":                                                            "null 'c' | 1 'a' | 2 'b' |",
		"select t.x, y from t join u on t.x = u.x":                                      "1 10 | 2 20 | 2 21 |",
		"select t.x, y from t left join u on t.x = u.x":                                 "null null | 1 10 | 2 20 | 2 21 |",
		"select x from t semi join u on t.x = u.x":                                      "1 | 2 |",
		"select x from t anti join u on t.x = u.x":                                      "null |",
		"select t.x from t left join e on 1 = 1 join u on e.x = u.x":                    "",
		"select t.s, u.y from t left join e on t.x = e.x join u on u.x = t.x":           "'a' 10 | 'b' 20 | 'b' 21 |",
		"select t.s from t left join u on t.x = u.x where u.x is null":                  "'c' |",
		"select t.x from t join e on 1 = 1":                                             "",
		"select t.x from t semi join e on 1 = 1":                                        "",
		"select t.x from t anti join e on 1 = 1 where t.x > 0":                          "1 | 2 |",
		"select e.x from e left join t on 1 = 1":                                        "",
		"select e.x from e anti join t on 1 = 1":                                        "",
		"select count(*), sum(x), min(x), 3, 'q', null from e":                          "0 null null 3 'q' null |",
		"select x, count(*) from e group by x":                                          "",
		"select 1 from t":                                                               "1 | 1 | 1 |",
		"select x, count(*), sum(y), min(y), max(y) from u where y < 100 group by x":    "null 1 30 30 30 | 1 1 10 10 10 | 2 2 41 20 21 |",
		"select x from u group by x":                                                    "null | 1 | 2 | 5 |",
		"select count(*), count(x), sum(x) from u":                                      "5 4 10 |",
		"select x + y from u where x = 1":                                               "11 |",
		"select x from t where null":                                                    "",
		"select x from t where null or x = 1":                                           "1 |",
		"select a.x, b.x from t a join t b on a.x < b.x":                                "1 2 |",
		"select t.s from t join u on t.x = u.x anti join u w on w.x = t.x and w.y = 10": "'b' | 'b' |",
	} {
		got, e := deno.Text(base(), s)
		if e != api.OK || text(got) != want {
			t.Error(s, "|", text(got), e)
		}
	}
}

// P15.3, P15.4: errors.
func TestTextWrong(t *testing.T) {
	for s, want := range map[string]api.Errno{
		"select":                          api.ErrSyntax,
		"select z from t":                 api.ErrName,
		"select x from z where":           api.ErrSyntax,
		"select s + 1 from t":             api.ErrType,
		"select x from t where x + 1 = 1": api.ErrLimit,
		"select y + 1 from u":             api.ErrOver,
		"select sum(y) from u":            api.ErrOver,
		"select sum(y * 2) from u":        api.ErrOver,
		"select y + 1 from u where x = 6": api.OK,
	} {
		got, e := deno.Text(base(), s)
		if e != want || len(got) != 0 {
			t.Error(s, text(got), e)
		}
	}
	twice := append(base(), base()[0])
	if got, e := deno.Text(twice, "select"); e != api.ErrName || len(got) != 0 {
		t.Error("the tables' error first", e)
	}
}

// P15.4
func TestReady(t *testing.T) {
	q, e := deno.Ready(base(), "select y, sum(x) from u where x = 1 group by y")
	if e != api.OK || print.Query(q) != "select u.y, sum(u.x) from u where u.x = 1 group by u.y" {
		t.Error(print.Query(q), e)
	}
	bad := base()
	bad[1].Rows[0] = v("a", 1)
	for s, db := range map[string][]api.Table{"select x from t": bad, "select": base(), "select y from t": base(), "select x from t where s": base()} {
		q, e := deno.Ready(db, s)
		p, f := parse.Query(s)
		if schema.Check(db) != api.OK {
			f = schema.Check(db)
		} else if f == api.OK {
			if p, f = name.Resolve(db, p); f == api.OK {
				_, f = kind.Check(db, p)
			}
		}
		if e == api.OK || e != f || !tree.SameQuery(q, api.Query{}) {
			t.Error(s, e, f)
		}
	}
}

// P15.4: of a query whose tables are not there.
func TestRunWrong(t *testing.T) {
	q := api.Query{Items: []api.Expr{tree.Val(val.Int(1))}, From: []api.From{{Table: "gone"}}}
	if got, e := deno.Run(base(), q); e != api.ErrName || len(got) != 0 {
		t.Error(got, e)
	}
	if got, e := deno.Run(base(), api.Query{}); e != api.OK || len(got) != 0 {
		t.Error(got, e)
	}
}

func col(t, c int) api.Expr { return api.Expr{Op: api.OpCol, T: t, C: c} }

var same = sample.SameEnvs

// P15.1: by hand, in order.
func TestEnvs(t *testing.T) {
	db := base()
	eq := tree.Of(api.OpEq, col(0, 0), col(1, 0))
	a, b, c, x, y, z := db[0].Rows[0], db[0].Rows[1], db[0].Rows[2], db[1].Rows[0], db[1].Rows[1], db[1].Rows[2]
	for join, want := range map[int][][][]api.Val{
		api.JoinInner: {{a, y}, {b, x}, {b, z}},
		api.JoinLeft:  {{a, y}, {b, x}, {b, z}, {c, nil}},
		api.JoinSemi:  {{a, nil}, {b, nil}},
		api.JoinAnti:  {{c, nil}},
		api.JoinFirst: {{a, y}, {b, x}, {b, z}},
		99:            {{a, y}, {b, x}, {b, z}},
	} {
		if got := deno.Envs(db, []api.From{{Join: api.JoinAnti}, {Join: join, On: eq}}); !same(got, want) {
			t.Error(join, got)
		}
	}
	if got := deno.Envs(db[:1], []api.From{{}, {Join: api.JoinLeft, On: eq}}); !same(got, [][][]api.Val{{a, nil}, {b, nil}, {c, nil}}) {
		t.Error("tables that are wanting", got)
	}
	if got := deno.Envs(db[:1], []api.From{{}, {Join: api.JoinInner}}); len(got) != 0 {
		t.Error(got)
	}
	if len(deno.Envs(nil, nil)) != 0 || len(deno.Envs(nil, []api.From{{}})) != 0 || len(deno.Envs(db, nil)) != 0 {
		t.Error("of none")
	}
	all := tree.Of(api.OpIsNull, tree.Val(val.Null()))
	if got := deno.Envs(db, []api.From{{}, {Join: api.JoinSemi, On: all}, {Join: api.JoinLeft, On: tree.Of(api.OpIsNull, col(1, 0))}}); !same(got, [][][]api.Val{{a, nil, nil}, {b, nil, nil}, {c, nil, nil}}) {
		t.Error("a table joined by semi has an empty row from then on", got)
	}
}

// naive tells environments table by table.
func naive(tables []api.Table, from []api.From) [][][]api.Val {
	var envs [][][]api.Val
	for _, r := range tables[0].Rows {
		envs = append(envs, [][]api.Val{r})
	}
	for i, f := range from[1:] {
		var next [][][]api.Val
		for _, env := range envs {
			var met [][][]api.Val
			for _, r := range tables[i+1].Rows {
				if n := append(slices.Clone(env), r); logic.Is(eval.Truth(f.On, n)) {
					met = append(met, n)
				}
			}
			none := append(slices.Clone(env), nil)
			switch {
			case f.Join == api.JoinLeft && len(met) == 0, f.Join == api.JoinSemi && len(met) > 0, f.Join == api.JoinAnti && len(met) == 0:
				next = append(next, none)
			case f.Join == api.JoinInner || f.Join == api.JoinLeft:
				next = append(next, met...)
			}
		}
		envs = next
	}
	return envs
}

// P15.1, P15.2
func TestEnvsOfMany(t *testing.T) {
	for seed := range 400 {
		d := sample.New(seed)
		db := sample.Tables(d, 6)
		q, e := deno.Ready(db, sample.Query(d, 1+d.To(4), sample.Joins(true)))
		if e != api.OK {
			continue
		}
		tables, _ := name.Tables(db, q.From)
		envs := deno.Envs(tables, q.From)
		if !same(envs, naive(tables, q.From)) {
			t.Fatal(print.Query(q))
		}
		var want [][][]api.Val
		for _, env := range envs {
			if q.Where.Op == 0 || eval.Truth(q.Where, env) == api.True {
				want = append(want, env)
			}
		}
		if !same(deno.Where(envs, q.Where), want) {
			t.Error(print.Query(q))
		}
	}
}

// P15.2
func TestWhere(t *testing.T) {
	envs := [][][]api.Val{{v(1)}, {v(nil)}, {v(2)}}
	one := tree.Of(api.OpEq, col(0, 0), tree.Val(val.Int(1)))
	if got := deno.Where(envs, one); !same(got, envs[:1]) {
		t.Error(got)
	}
	if got := deno.Where(envs, tree.Of(api.OpNot, one)); !same(got, envs[2:]) {
		t.Error(got)
	}
	got := deno.Where(envs, api.Expr{L: []api.Expr{one}})
	if !same(got, envs) {
		t.Error(got)
	}
	got[0] = nil
	if envs[0] == nil {
		t.Error("shared")
	}
}

// P15.3: by hand.
func TestRows(t *testing.T) {
	over := tree.Of(api.OpAdd, col(0, 1), tree.Val(val.Int(1)))
	sum, count := tree.Of(api.OpSum, over), tree.Of(api.OpCount)
	envs := [][][]api.Val{{v(2, 5)}, {v(1, math.MaxInt)}, {v(2, nil)}, {v(1, "a")}}
	for i, c := range []struct {
		envs [][][]api.Val
		q    api.Query
		want string
		e    api.Errno
	}{
		{envs, api.Query{Items: []api.Expr{col(0, 0), col(9, 9)}}, "1 null | 1 null | 2 null | 2 null |", api.OK},
		{nil, api.Query{Items: []api.Expr{over}}, "", api.OK},
		{envs, api.Query{Items: []api.Expr{over}}, "", api.ErrOver},
		{envs[3:], api.Query{Items: []api.Expr{over}}, "", api.ErrType},
		{envs[2:3], api.Query{Items: []api.Expr{over}}, "null |", api.OK},
		{[][][]api.Val{envs[3], envs[1]}, api.Query{Items: []api.Expr{over}}, "", api.ErrType},
		{envs, api.Query{Items: []api.Expr{sum, count}}, "", api.ErrOver},
		{[][][]api.Val{envs[3], envs[1]}, api.Query{Items: []api.Expr{sum}}, "", api.ErrType},
		{envs[:1], api.Query{Items: []api.Expr{sum, count, col(0, 0), tree.Of(api.OpCountOf)}}, "6 1 2 0 |", api.OK},
		{envs, api.Query{Items: []api.Expr{col(0, 0), count}, Group: []api.Expr{col(0, 0)}}, "1 2 | 2 2 |", api.OK},
		{nil, api.Query{Items: []api.Expr{count, col(0, 0)}}, "0 null |", api.OK},
		{nil, api.Query{Items: []api.Expr{col(0, 0)}, Group: []api.Expr{col(0, 0)}}, "", api.OK},
		{envs[:2], api.Query{Items: []api.Expr{tree.Of(api.OpAdd, count, count)}}, "", api.ErrType},
		{envs, api.Query{Items: []api.Expr{tree.Of(api.OpSum), tree.Of(api.OpCount, over)}}, "null 4 |", api.OK},
		{[][][]api.Val{{v(1, math.MaxInt-1)}, {v(1, math.MaxInt-1)}, {v(2, "a")}}, api.Query{Items: []api.Expr{sum}, Group: []api.Expr{col(0, 0)}}, "", api.ErrOver},
		{[][][]api.Val{{v(2, "a")}, {v(1, math.MaxInt)}}, api.Query{Items: []api.Expr{count, sum}, Group: []api.Expr{col(0, 0)}}, "", api.ErrType},
	} {
		got, e := deno.Rows(c.envs, c.q)
		if e != c.e || text(got) != c.want {
			t.Error(i, text(got), e)
		}
	}
}

// P15.5
func TestOrderOfRows(t *testing.T) {
	for seed := range 200 {
		d := sample.New(seed)
		db := sample.Tables(d, 6)
		s := sample.Query(d, 1+d.To(3), sample.Joins(true))
		want, e := deno.Text(db, s)
		for i := range db {
			db[i].Rows = slices.Clone(db[i].Rows)
			slices.Reverse(db[i].Rows)
		}
		got, f := deno.Text(db, s)
		if e != f || text(want) != text(got) {
			t.Error(s)
		}
	}
}
