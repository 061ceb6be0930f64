package schema_test

import (
	"slices"
	"strings"
	"testing"

	"trommel/api"
	"trommel/rows"
	"trommel/schema"
	"trommel/val"
)

func words() []string {
	return strings.Fields("select from join left semi anti on where group by as and or not is null count sum min max")
}

// P5.1
func TestWord(t *testing.T) {
	for _, w := range words() {
		if !schema.Word(w) {
			t.Error(w)
		}
	}
	for _, s := range []string{"", "Select", "inner", "outer", "table", "col", "row", "selects", "sel", " on", "having"} {
		if schema.Word(s) {
			t.Error(s)
		}
	}
}

// P5.1
func TestName(t *testing.T) {
	for _, s := range []string{"a", "z", "_", "a_1", "_9", "a0", "join1", "table", strings.Repeat("a", api.MaxName)} {
		if !schema.Name(s) {
			t.Error(s)
		}
	}
	wrong := []string{"", "1a", "0", "A", "aB", "a b", "a-b", "a.b", "é", "a\x00", "a{", "a`", "a/", "a:", strings.Repeat("a", api.MaxName+1)}
	for _, s := range append(wrong, words()...) {
		if schema.Name(s) {
			t.Error(s)
		}
	}
}

func cols(names string) []api.Column {
	out := []api.Column{}
	for i, n := range strings.Fields(names) {
		out = append(out, api.Column{Name: n, Kind: 1 + i%2})
	}
	return out
}

func table(name string) api.Table {
	return api.Table{Name: name, Cols: cols("x s"), Rows: [][]api.Val{
		{val.Int(1), val.Text("a")}, {val.Null(), val.Null()}, {val.Int(1), val.Text("a")},
	}}
}

// with tells a table with some fields changed.
func with(change func(t *api.Table)) api.Table {
	t := table("t")
	change(&t)
	return t
}

func many(n int, name string) []api.Column {
	out := []api.Column{}
	for i := range n {
		out = append(out, api.Column{Name: name + strings.Repeat("a", i), Kind: api.KindInt})
	}
	return out
}

// P5.2
func TestCheckRight(t *testing.T) {
	sixteen := []api.Table{}
	for i := range api.MaxTables {
		sixteen = append(sixteen, table("t"+strings.Repeat("a", i)))
	}
	big := api.Table{Name: "t", Cols: cols("x"), Rows: make([][]api.Val, api.MaxRows)}
	for i := range big.Rows {
		big.Rows[i] = []api.Val{val.Null()}
	}
	for i, db := range [][]api.Table{
		nil,
		{table("t")},
		{table("t"), table("u")},
		{{Name: "t", Cols: cols("t")}},
		sixteen,
		{big},
		{{Name: "t", Cols: many(api.MaxCols, "c")}},
	} {
		if e := schema.Check(db); e != api.OK {
			t.Error(i, e)
		}
	}
}

// P5.2
func TestCheckWrong(t *testing.T) {
	seventeen := make([]api.Table, api.MaxTables+1)
	rowsOf := func(r ...api.Val) func(*api.Table) {
		return func(t *api.Table) { t.Rows = append(t.Rows, r) }
	}
	for i, c := range []struct {
		t api.Table
		e api.Errno
	}{
		{with(func(t *api.Table) { t.Name = "T" }), api.ErrName},
		{with(func(t *api.Table) { t.Name = "" }), api.ErrName},
		{with(func(t *api.Table) { t.Name = "join" }), api.ErrName},
		{with(func(t *api.Table) { t.Name = "first" }), api.ErrName},
		{with(func(t *api.Table) { t.Name = "first"; t.Cols = nil }), api.ErrName},
		{with(func(t *api.Table) { t.Cols = nil; t.Rows = nil }), api.ErrLimit},
		{with(func(t *api.Table) { t.Cols = many(api.MaxCols+1, "c"); t.Rows = nil }), api.ErrLimit},
		{with(func(t *api.Table) { t.Cols = cols("X"); t.Rows = make([][]api.Val, api.MaxRows+1) }), api.ErrLimit},
		{with(func(t *api.Table) { t.Cols = cols("x X") }), api.ErrName},
		{with(func(t *api.Table) { t.Cols = cols("x x") }), api.ErrName},
		{with(func(t *api.Table) { t.Cols = cols("x y"); t.Cols[0].Kind = 0; t.Cols[1].Name = "x" }), api.ErrType},
		{with(func(t *api.Table) { t.Cols = cols("x x"); t.Cols[1].Kind = 0 }), api.ErrName},
		{with(func(t *api.Table) { t.Cols = cols("x s"); t.Cols[1].Kind = 3 }), api.ErrType},
		{with(rowsOf()), api.ErrType},
		{with(rowsOf(val.Int(1))), api.ErrType},
		{with(rowsOf(val.Int(1), val.Text("a"), val.Null())), api.ErrType},
		{with(rowsOf(val.Text("a"), val.Text("a"))), api.ErrType},
		{with(rowsOf(val.Int(1), val.Int(1))), api.ErrType},
		{with(rowsOf(val.Int(1), api.Val{I: 3})), api.ErrType},
		{with(rowsOf(api.Val{Kind: 1, S: "x"}, val.Null())), api.ErrType},
		{with(rowsOf(val.Int(1), api.Val{Kind: 2, S: strings.Repeat("a", api.MaxText+1)})), api.ErrType},
		{with(rowsOf(val.Int(1), api.Val{Kind: 3})), api.ErrType},
	} {
		if e := schema.Check([]api.Table{table("first"), c.t, {}}); e != c.e {
			t.Error(i, e)
		}
	}
	if schema.Check(seventeen) != api.ErrLimit {
		t.Error("too many tables, ahead of all else")
	}
	bad := with(rowsOf(val.Int(1)))
	if schema.Check([]api.Table{bad, {Name: "T"}}) != api.ErrType {
		t.Error("table by table")
	}
}

// P5.3
func TestFind(t *testing.T) {
	one, two := table("t"), table("t")
	two.Rows = nil
	db := []api.Table{table("u"), one, two}
	got, ok := schema.Find(db, "t")
	if !ok || got.Name != "t" || len(got.Rows) != 3 || len(got.Cols) != 2 {
		t.Error(got, ok)
	}
	if first, ok := schema.Find(db, "u"); !ok || first.Name != "u" || len(first.Rows) != 3 {
		t.Error("the table at place 0", first)
	}
	for _, s := range []string{"", "x", "T"} {
		got, ok = schema.Find(db, s)
		if ok || got.Name != "" || got.Cols != nil || got.Rows != nil {
			t.Error(s, got)
		}
	}
}

// P5.3
func TestCol(t *testing.T) {
	tab := api.Table{Cols: cols("x y x z")}
	for name, want := range map[string]int{"x": 0, "y": 1, "z": 3} {
		if i, ok := schema.Col(tab, name); i != want || !ok {
			t.Error(name, i, ok)
		}
	}
	if i, ok := schema.Col(tab, "w"); i != 0 || ok {
		t.Error(i, ok)
	}
	if !slices.Equal(schema.Kinds(tab), []int{1, 2, 1, 2}) || len(schema.Kinds(api.Table{})) != 0 {
		t.Error(schema.Kinds(tab))
	}
}

// P5.3, P5.4
func TestWithout(t *testing.T) {
	db := []api.Table{table("u"), table("t"), table("t")}
	for i := -1; i < 5; i++ {
		got := schema.Without(db, "t", i)
		want := rows.Without(db[1].Rows, i)
		if len(got) != 3 || !slices.EqualFunc(got[1].Rows, want, rows.Same) || got[1].Name != "t" || len(got[1].Cols) != 2 {
			t.Error(i, got)
		}
		if len(got[0].Rows) != 3 || len(got[2].Rows) != 3 {
			t.Error("all else is as it is", i)
		}
		size := 9
		if i >= 0 && i < 3 {
			size = 8
		}
		if schema.Size(got) != size || schema.Size(db) != 9 {
			t.Error(i, schema.Size(got))
		}
	}
	if got := schema.Without(db, "u", 1); len(got[0].Rows) != 2 || schema.Size(got) != 8 {
		t.Error("the table at place 0", got)
	}
	if got := schema.Without(db, "x", 0); schema.Size(got) != 9 || len(got) != 3 {
		t.Error("no such table", got)
	}
	if len(schema.Without(nil, "t", 0)) != 0 || schema.Size(nil) != 0 {
		t.Error("of none")
	}
}

// P5.4
func TestWithoutIsRight(t *testing.T) {
	db := []api.Table{table("u"), table("t")}
	for i := -1; i < 4; i++ {
		if e := schema.Check(schema.Without(db, "t", i)); e != api.OK {
			t.Error(i, e)
		}
	}
}
