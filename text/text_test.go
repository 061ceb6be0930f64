package text_test

import (
	"math"
	"slices"
	"strings"
	"testing"

	"trommel/api"
	"trommel/rows"
	"trommel/sample"
	"trommel/schema"
	"trommel/text"
	"trommel/val"
)

// P38.1
func TestValue(t *testing.T) {
	for _, c := range []struct {
		v    api.Val
		want string
	}{
		{val.Null(), "null"}, {val.Int(-5), "-5"}, {val.Int(0), "0"}, {val.Text("it's"), "'it''s'"}, {val.Text("null"), "'null'"}, {api.Val{Kind: 3}, "?"},
	} {
		if got := text.Value(c.v); got != c.want {
			t.Error(got)
		}
	}
}

// P38.1
func TestRow(t *testing.T) {
	r := []api.Val{val.Int(1), val.Null(), val.Text("a b")}
	if got := text.Row(r); got != "row 1 null 'a b'" || text.Row(nil) != "row" {
		t.Error(got)
	}
	if got := text.Rows([][]api.Val{r, nil, {val.Int(2)}}); got != "row 1 null 'a b'\nrow\nrow 2\n" || text.Rows(nil) != "" {
		t.Error(got)
	}
}

func base() []api.Table {
	return []api.Table{
		{Name: "t", Cols: []api.Column{{Name: "x", Kind: 1}, {Name: "s", Kind: 2}}, Rows: [][]api.Val{{val.Int(1), val.Text("it's\n")}, {val.Null(), val.Null()}}},
		{Name: "u", Cols: []api.Column{{Name: "table", Kind: 2}}},
	}
}

// P38.1
func TestPut(t *testing.T) {
	if got := text.Put(base()); got != "table t\ncol x int\ncol s text\nrow 1 'it''s\n'\nrow null null\ntable u\ncol table text\n" || text.Put(nil) != "" {
		t.Error(got)
	}
	odd := []api.Table{{Name: "A b", Cols: []api.Column{{Kind: 0}, {Kind: 3}}, Rows: [][]api.Val{{{Kind: 3}}, nil}}, {}}
	if got := text.Put(odd); got != "table A b\ncol  text\ncol  text\nrow ?\nrow\ntable \n" {
		t.Errorf("%q", got)
	}
}

// P38.2
func TestWords(t *testing.T) {
	for _, c := range []struct {
		s      string
		words  []string
		places []int
	}{
		{"", nil, nil}, {" \t\r\n ", nil, nil}, {"a", []string{"a"}, []int{0}}, {"  ab\tc\n", []string{"ab", "c"}, []int{2, 5}},
		{"a'b c'", []string{"a'b", "c'"}, []int{0, 4}}, {"''", []string{"''"}, []int{0}}, {"'a b' 'c''d'", []string{"'a b'", "'c''d'"}, []int{0, 6}},
		{"''''\r'x'", []string{"''''", "'x'"}, []int{0, 5}}, {"'\n\x00é\xff'", []string{"'\n\x00é\xff'"}, []int{0}}, {"\xff\v", []string{"\xff\v"}, []int{0}},
		{"''' '", []string{"''' '"}, []int{0}}, {"-'", []string{"-'"}, []int{0}},
	} {
		l, places, ok := text.Words(c.s)
		if !ok || !slices.Equal(l, c.words) || !slices.Equal(places, c.places) {
			t.Errorf("%q %q %v %v", c.s, l, places, ok)
		}
	}
	for _, s := range []string{"'", "a '", "'a", "'a''", "'''", "'a'b", "'a'b'", "'a'b' c", "'a'' ", "''a", "b 'a'-", "'a''b'c", "x 'y' 'z", "''''' x", "'a'\v"} {
		l, places, ok := text.Words(s)
		if ok || len(l) != 0 || len(places) != 0 {
			t.Errorf("%q %q", s, l)
		}
	}
}

// P38.2, P38.4
func TestRead(t *testing.T) {
	long := strings.Repeat("'", api.MaxText)
	for _, v := range []api.Val{
		val.Null(), val.Int(0), val.Int(7), val.Int(-7), val.Int(math.MaxInt), val.Int(math.MinInt), val.Text(""), val.Text("'"), val.Text("a''b\x00"), val.Text("null"), val.Text(long),
	} {
		if got, ok := text.Read(text.Value(v)); got != v || !ok {
			t.Error(v.Kind, v.I, ok)
		}
	}
	for _, s := range []string{
		"", "?", "Null", "nul", "null ", "-0", "00", "01", "-01", "+1", "1 ", " 1", "1.0", "1e3", "0x1", "1_0", "-", "--1", "9223372036854775808", "-9223372036854775809", "99999999999999999999",
		"'", "'''", "'a", "a'", "'a'b'", "'a' ", "''a''", "'" + strings.Repeat("a", api.MaxText+1) + "'", "a", "１",
	} {
		if got, ok := text.Read(s); ok || got != (api.Val{}) {
			t.Errorf("%.20q %v", s, got)
		}
	}
}

func same(a, b []api.Table) bool {
	return slices.EqualFunc(a, b, func(x, y api.Table) bool {
		return x.Name == y.Name && slices.Equal(x.Cols, y.Cols) && slices.EqualFunc(x.Rows, y.Rows, rows.Same)
	})
}

// P38.3
func TestGet(t *testing.T) {
	db, at, e := text.Get("table t col x int row 1 row null")
	if e != api.OK || at != 0 || !same(db, []api.Table{{Name: "t", Cols: []api.Column{{Name: "x", Kind: 1}}, Rows: [][]api.Val{{val.Int(1)}, {val.Null()}}}}) {
		t.Error(db, at, e)
	}
	db, at, e = text.Get(" \n")
	if e != api.OK || at != 0 || len(db) != 0 {
		t.Error(db, at, e)
	}
	db, at, e = text.Get("\ttable table col col int\ncol row text row 5 'x'  table\rrow col int text")
	want := []api.Table{{Name: "table", Cols: []api.Column{{Name: "col", Kind: 1}, {Name: "row", Kind: 2}}, Rows: [][]api.Val{{val.Int(5), val.Text("x")}}}, {Name: "row", Cols: []api.Column{{Name: "int", Kind: 2}}}}
	if e != api.OK || at != 0 || !same(db, want) {
		t.Error(db, at, e)
	}
}

// P38.3: errors.
func TestGetWrong(t *testing.T) {
	for _, c := range []struct {
		s  string
		at int
		e  api.Errno
	}{
		{"table t col x int row '", 0, api.ErrSyntax},
		{"tables 'x'y", 0, api.ErrSyntax},
		{"  tables t", 2, api.ErrSyntax},
		{"table", 5, api.ErrSyntax},
		{"table ", 6, api.ErrSyntax},
		{"table 't'", 6, api.ErrSyntax},
		{"table t x", 8, api.ErrSyntax},
		{"table t col", 11, api.ErrSyntax},
		{"table t col x", 13, api.ErrSyntax},
		{"table t col 'x' int", 12, api.ErrSyntax},
		{"table t col x Int", 14, api.ErrSyntax},
		{"table t col x int row", 21, api.ErrSyntax},
		{"table t col x int row ", 22, api.ErrSyntax},
		{"table t col x int row y", 22, api.ErrSyntax},
		{"table t col x int row 01", 22, api.ErrSyntax},
		{"table t col x int row 9223372036854775808", 22, api.ErrSyntax},
		{"table t col x int row 1 2", 24, api.ErrSyntax},
		{"table t col x int row 1 col y int", 24, api.ErrSyntax},
		{"table t col x int col y int row 1 row 2", 34, api.ErrSyntax},
		{"table t row 1", 12, api.ErrSyntax},
		{"table T col x int row z", 22, api.ErrSyntax},
		{"table t", 0, api.ErrLimit},
		{"table t row row", 0, api.ErrLimit},
		{"table T col x int", 0, api.ErrName},
		{"table join col x int", 0, api.ErrName},
		{"table t col x int table t col x int", 0, api.ErrName},
		{"table t col x int col x int", 0, api.ErrName},
		{"table t col a'b int", 0, api.ErrName},
		{"table t col x int row 'a'", 0, api.ErrType},
		{"table t col x text row 1", 0, api.ErrType},
		{strings.Repeat("table t col x int ", 17), 0, api.ErrLimit},
		{"table t col x int " + strings.Repeat("row 1 ", 1<<16+1), 0, api.ErrLimit},
		{"table t col x text row '" + strings.Repeat("a", 1<<16+1) + "'", 23, api.ErrSyntax},
	} {
		db, at, e := text.Get(c.s)
		if len(db) != 0 || at != c.at || e != c.e {
			t.Errorf("%.40q %v %d %d", c.s, len(db), at, e)
		}
	}
}

// P38.4
func TestPutAndGot(t *testing.T) {
	for seed := range 100 {
		db := sample.Tables(sample.New(seed), 9)
		if seed == 0 {
			db = base()
		}
		got, at, e := text.Get(text.Put(db))
		if schema.Check(db) != api.OK || e != api.OK || at != 0 || !same(got, db) {
			t.Error(seed, e)
		}
		if text.Put(got) != text.Put(db) {
			t.Error(seed)
		}
	}
	if got, _, e := text.Get(text.Put(nil)); e != api.OK || len(got) != 0 {
		t.Error("of none", e)
	}
}
