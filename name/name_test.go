package name_test

import (
	"slices"
	"testing"

	"trommel/api"
	"trommel/name"
	"trommel/parse"
	"trommel/print"
	"trommel/schema"
	"trommel/tree"
	"trommel/val"
)

func table(name string, cols ...string) api.Table {
	t := api.Table{Name: name, Rows: [][]api.Val{rowOf(len(cols))}}
	for _, c := range cols {
		t.Cols = append(t.Cols, api.Column{Name: c, Kind: api.KindInt})
	}
	return t
}

func rowOf(n int) []api.Val {
	out := []api.Val{}
	for i := range n {
		out = append(out, val.Int(i))
	}
	return out
}

// base: a (x y), b (x z), c (w).
func base() []api.Table {
	return []api.Table{table("a", "x", "y"), table("b", "x", "z"), table("c", "w")}
}

// P11.1
func TestAlias(t *testing.T) {
	for _, c := range []struct {
		f    api.From
		want string
	}{
		{api.From{Table: "a"}, "a"}, {api.From{Table: "a", As: "b"}, "b"}, {api.From{As: "b"}, "b"}, {api.From{}, ""},
	} {
		if got := name.Alias(c.f); got != c.want {
			t.Error(c.f, got)
		}
	}
}

// P11.1
func TestSeen(t *testing.T) {
	from := []api.From{{}, {Join: api.JoinSemi}, {Join: api.JoinInner}, {Join: api.JoinAnti}, {Join: api.JoinLeft}}
	want := map[int][]int{-1: nil, 0: {0}, 1: {0, 1}, 2: {0, 2}, 3: {0, 2, 3}, 4: {0, 2, 4}, 5: {0, 2, 4}, 6: nil, 1 << 40: nil, -1 << 63: nil}
	for i, w := range want {
		if got := name.Seen(from, i); !slices.Equal(got, w) {
			t.Error(i, got)
		}
	}
	if len(name.Seen(nil, 0)) != 0 || len(name.Seen(nil, 1)) != 0 {
		t.Error("of none")
	}
}

// P11.1
func TestTables(t *testing.T) {
	got, e := name.Tables(base(), []api.From{{Table: "b"}, {Table: "a", As: "c"}, {Table: "b", As: "d"}})
	if e != api.OK || len(got) != 3 || got[0].Name != "b" || got[1].Name != "a" || got[2].Name != "b" || len(got[1].Rows) != 1 || len(got[0].Cols) != 2 {
		t.Error(got, e)
	}
	if got, e = name.Tables(base(), nil); e != api.OK || len(got) != 0 {
		t.Error("of none")
	}
	for _, from := range [][]api.From{
		{{Table: "d"}}, {{Table: "a"}, {Table: "d"}}, {{Table: "a"}, {Table: "a"}}, {{Table: "a"}, {Table: "b", As: "a"}},
		{{Table: "a", As: "b"}, {Table: "b"}}, {{Table: ""}}, {{Table: "a"}, {Table: "b"}, {Table: "c", As: "a"}},
	} {
		if got, e = name.Tables(base(), from); e != api.ErrName || len(got) != 0 {
			t.Error(from, e)
		}
	}
}

func from() []api.From {
	return []api.From{{Table: "a"}, {Join: 1, Table: "b"}, {Join: 1, Table: "a", As: "d"}, {Join: 1, Table: "gone"}}
}

// P11.2
func TestExpr(t *testing.T) {
	for _, c := range []struct {
		tab, name string
		seen      []int
		want      api.Expr
	}{
		{"a", "x", []int{0, 1, 2}, api.Expr{Op: api.OpCol, Tab: "a", Name: "x"}},
		{"d", "y", []int{0, 1, 2}, api.Expr{Op: api.OpCol, Tab: "d", Name: "y", T: 2, C: 1}},
		{"", "z", []int{0, 1, 2}, api.Expr{Op: api.OpCol, Tab: "b", Name: "z", T: 1, C: 1}},
		{"", "x", []int{1}, api.Expr{Op: api.OpCol, Tab: "b", Name: "x", T: 1}},
		{"", "y", []int{1, 2}, api.Expr{Op: api.OpCol, Tab: "d", Name: "y", T: 2, C: 1}},
		{"", "y", []int{1, 0, -1, 9}, api.Expr{Op: api.OpCol, Tab: "a", Name: "y", C: 1}},
		{"a", "y", []int{0, 0}, api.Expr{Op: api.OpCol, Tab: "a", Name: "y", C: 1}},
	} {
		in := tree.Col(c.tab, c.name)
		in.T, in.C, in.Val, in.L = 7, 7, val.Int(3), []api.Expr{tree.Col("", "nowhere")}
		got, e := name.Expr(base(), from(), c.seen, in)
		if e != api.OK || !tree.Same(got, c.want) {
			t.Error(c.tab, c.name, c.seen, got, e)
		}
	}
}

// P11.2
func TestExprWrong(t *testing.T) {
	for _, c := range []struct {
		tab, name string
		seen      []int
	}{
		{"b", "x", []int{0, 2}}, {"e", "x", []int{0, 1, 2}}, {"a", "z", []int{0, 1, 2}}, {"a", "", []int{0}}, {"", "", []int{0}},
		{"", "x", []int{0, 1}}, {"", "y", []int{0, 2}}, {"", "w", []int{0, 1, 2}}, {"", "y", []int{0, 0}}, {"", "x", nil},
		{"gone", "x", []int{0, 3}}, {"", "x", []int{3}}, {"", "x", []int{-1, 4}}, {"A", "x", []int{0}},
	} {
		in := tree.Of(api.OpAdd, tree.Val(val.Int(1)), tree.Of(api.OpNot, tree.Col(c.tab, c.name)))
		got, e := name.Expr(base(), from(), c.seen, in)
		if e != api.ErrName || !tree.Same(got, api.Expr{}) {
			t.Error(c.tab, c.name, c.seen, got, e)
		}
	}
}

// P11.2: of the first one whose alias it is; and all else stays.
func TestExprFirst(t *testing.T) {
	two := []api.From{{Table: "a"}, {Table: "b", As: "a"}}
	got, e := name.Expr(base(), two, []int{0, 1}, tree.Col("a", "x"))
	if e != api.OK || got.T != 0 {
		t.Error(got, e)
	}
	if _, e = name.Expr(base(), two, []int{0, 1}, tree.Col("a", "z")); e != api.ErrName {
		t.Error("the first one alone counts")
	}
	in := api.Expr{Op: 99, Tab: "q", Name: "r", T: 4, C: 5, Val: val.Int(6), L: []api.Expr{tree.Col("", "y"), {}}}
	got, e = name.Expr(base(), from(), []int{0}, in)
	want := in
	want.L = []api.Expr{{Op: api.OpCol, Tab: "a", Name: "y", C: 1}, {}}
	if e != api.OK || !tree.Same(got, want) {
		t.Error(got, e)
	}
	if in.L[0].Tab != "" {
		t.Error("what was handed in is another one")
	}
}

func query(t *testing.T, s string) api.Query {
	t.Helper()
	q, e := parse.Query(s)
	if e != api.OK {
		t.Fatal(s)
	}
	return q
}

// P11.3
func TestResolve(t *testing.T) {
	for s, want := range map[string]string{
		"select x from a":   "select a.x from a",
		"select x from a q": "select q.x from a q",
		"select y, a.x + z from a join b on y = z where a.x = b.x group by y, w.z": "",
		"select y, a.x + z from a join b on y = z where a.x = b.x group by y, b.z": "select a.y, a.x + b.z from a join b on a.y = b.z where a.x = b.x group by a.y, b.z",
		"select x from a semi join b on a.x = b.x and z = y":                       "select a.x from a semi join b on a.x = b.x and b.z = a.y",
		"select w from a semi join b on z = y join c on w = x":                     "select c.w from a semi join b on b.z = a.y join c on c.w = a.x",
		"select d.x from a d join a e on d.y = e.y left join b on z = e.x":         "select d.x from a d join a e on d.y = e.y left join b on b.z = e.x",
		"select count(*), count(x), 1 from a":                                      "select count(*), count(a.x), 1 from a",
		"select x from d":                                                          "",
		"select x from a join a on 1 = 1":                                          "",
		"select x from a join b on y = z":                                          "",
		"select y from a join b on x = z":                                          "",
		"select y from a join b on y = w join c on w = y":                          "",
		"select z from a semi join b on y = z":                                     "",
		"select y from a anti join b on y = z where z":                             "",
		"select y from a anti join b on y = z join c on w = z":                     "",
		"select y from a where z = 1":                                              "",
		"select y from a group by z":                                               "",
		"select a.w from a":                                                        "",
		"select b.x from a":                                                        "",
	} {
		q, e := name.Resolve(base(), query(t, s))
		if want == "" {
			if e != api.ErrName || !tree.SameQuery(q, api.Query{}) {
				t.Error(s, e)
			}
		} else if got := print.Query(q); e != api.OK || got != want {
			t.Error(s, got, e)
		}
	}
}

// P11.3: the first one's On, and no Where, are as they stand.
func TestResolveKept(t *testing.T) {
	q := query(t, "select y from a")
	q.From[0].On = tree.Col("", "nowhere")
	q.From[0].Join = 3
	q.Where = api.Expr{L: []api.Expr{tree.Col("", "nowhere")}}
	q.Items[0] = tree.Val(val.Int(1))
	got, e := name.Resolve(base(), q)
	if e != api.OK || !tree.SameQuery(got, q) {
		t.Error(got, e)
	}
	got.From[0].As = "new"
	if q.From[0].As != "" {
		t.Error("shared")
	}
	if got, e = name.Resolve(base(), api.Query{}); e != api.OK || !tree.SameQuery(got, api.Query{}) {
		t.Error("of none", e)
	}
}

// P11.4
func TestResolvedAgain(t *testing.T) {
	for _, s := range []string{
		"select y, a.x + z from a join b on y = z where a.x = b.x group by y, b.z",
		"select w from a q semi join b on z = q.y join c on w = q.x left join b r on r.z = w where not r.x is null",
	} {
		q, e := name.Resolve(base(), query(t, s))
		if e != api.OK {
			t.Fatal(s)
		}
		again, e := name.Resolve(base(), q)
		if e != api.OK || !tree.SameQuery(q, again) {
			t.Error(s, e)
		}
		tables, _ := name.Tables(base(), q.From)
		for _, x := range append(append(q.Items, q.Group...), q.Where) {
			for _, c := range tree.Cols(x) {
				at, ok := schema.Col(tables[c.T], c.Name)
				if !ok || at != c.C || name.Alias(q.From[c.T]) != c.Tab {
					t.Error(c)
				}
			}
		}
	}
}
