package place_test

import (
	"math"
	"slices"
	"strconv"
	"strings"
	"testing"

	"trommel/api"
	"trommel/cost"
	"trommel/deno"
	"trommel/eval"
	"trommel/frac"
	"trommel/name"
	"trommel/norm"
	"trommel/place"
	"trommel/print"
	"trommel/rows"
	"trommel/sample"
	"trommel/sat"
	"trommel/semi"
)

func ready(t *testing.T, s string) api.Norm {
	t.Helper()
	db := []api.Table{}
	for _, n := range []string{"a", "b", "c", "d", "e"} {
		db = append(db, api.Table{Name: n, Cols: []api.Column{{Name: "x", Kind: 1}, {Name: "y", Kind: 1}, {Name: "z", Kind: 1}}})
	}
	q, e := deno.Ready(db, s)
	if e != api.OK {
		t.Fatal(s, e)
	}
	return norm.Of(q)
}

// mixed: a, b, c of the core; d, e, and a again behind it.
func mixed(t *testing.T, d, e, f string) api.Norm {
	t.Helper()
	return ready(t, "select b.x from a join b on a.x = b.y and a.y = b.y join c on c.z = b.z "+
		d+" join d on d.z = a.y and d.x = c.z and d.y = b.x and d.x > 1 "+e+" join e on e.x = a.x "+f+" join a f on f.y = b.z and f.x = 3")
}

func ints(l []int) string {
	out := []string{}
	for _, n := range l {
		out = append(out, strconv.Itoa(n))
	}
	return strings.Join(out, ",")
}

func show(l []api.Filter) string {
	out := ""
	for _, f := range l {
		out += strconv.Itoa(f.From) + "(" + ints(f.FromCols) + ")" + strconv.Itoa(f.To) + "(" + ints(f.ToCols) + ") "
	}
	return strings.TrimSpace(out)
}

// P31.1
func TestRank(t *testing.T) {
	n := mixed(t, "left", "semi", "anti")
	order := []int{2, 0, 2, 1}
	for place1, want := range map[int]int{0: 2, 1: 4, 2: 1, 3: 0, 4: 5, 5: 0, 6: -1, -1: -1, math.MaxInt: -1, math.MinInt: -1} {
		if got := place.Rank(n, order, place1); got != want {
			t.Error(place1, got)
		}
	}
	if place.Rank(n, []int{0}, 1) != -1 || place.Rank(n, nil, 0) != -1 || place.Rank(n, nil, 4) != 5 || place.Rank(api.Norm{}, []int{0}, 0) != -1 {
		t.Error("not there")
	}
	inner := mixed(t, "left", "", "semi")
	if place.Rank(inner, order, 4) != 5 || place.Rank(inner, order, 5) != 6 {
		t.Error("inner and semi behind the core")
	}
}

// P31.1
func TestColumn(t *testing.T) {
	n := mixed(t, "left", "left", "left") // classes: a.x a.y b.y = 0; b.z c.z = 18
	for _, c := range []struct{ t, class, want int }{
		{0, 0, 0}, {1, 0, 1}, {2, 0, -1}, {1, 18, 2}, {2, 18, 2}, {0, 18, -1}, {0, 2, 2}, {2, 32, 0}, {0, 1, -1}, {1, 17, -1}, {0, -1, -1}, {1, 128, -1}, {3, 48, -1}, {-1, 0, -1}, {9, 0, -1}, {0, math.MinInt, -1},
	} {
		if got := place.Column(n, c.t, c.class); got != c.want {
			t.Error(c, got)
		}
	}
}

// P31.1: columns that norm does not number.
func TestColumnPastAll(t *testing.T) {
	n := api.Norm{Scan: make([][]api.Expr, 12)}
	if place.Column(n, 8, -1) != -1 || place.Column(n, 11, -1) != -1 || place.Column(n, 7, 112) != 0 {
		t.Error("Column")
	}
}

// P31.2
func TestBetween(t *testing.T) {
	n := mixed(t, "semi", "", "left")
	for _, c := range []struct {
		from, to int
		a, b     []int
	}{
		{0, 1, []int{0}, []int{1}}, {1, 0, []int{1}, []int{0}}, {1, 2, []int{2}, []int{2}}, {0, 2, nil, nil}, {0, 0, nil, nil},
		{3, 0, []int{2}, []int{0}}, {3, 1, []int{2, 0, 1}, []int{1, 2, 0}}, {3, 2, []int{0}, []int{2}},
		{4, 0, []int{0}, []int{0}}, {4, 1, []int{0}, []int{1}}, {4, 2, nil, nil}, {5, 1, []int{1}, []int{2}}, {5, 2, []int{1}, []int{2}},
		{0, 3, []int{0}, []int{2}}, {1, 3, []int{1, 2, 0}, []int{2, 0, 1}}, {2, 3, []int{2}, []int{0}},
		{0, 4, []int{0}, []int{0}}, {1, 4, []int{1}, []int{0}}, {2, 4, nil, nil}, {1, 5, []int{2}, []int{1}}, {2, 5, []int{2}, []int{1}}, {0, 5, nil, nil},
		{3, 3, nil, nil}, {3, 4, nil, nil}, {5, 3, nil, nil}, {6, 0, nil, nil}, {-1, 0, nil, nil}, {0, -1, nil, nil}, {0, 6, nil, nil}, {3, 6, nil, nil}, {-1, 3, nil, nil}, {3, -1, nil, nil},
	} {
		a, b := place.Between(n, c.from, c.to)
		if !slices.Equal(a, c.a) || !slices.Equal(b, c.b) {
			t.Error(c, a, b)
		}
	}
	two := ready(t, "select a.x from a join b on a.z = b.x and a.x = b.z")
	if a, b := place.Between(two, 1, 0); !slices.Equal(a, []int{2, 0}) || !slices.Equal(b, []int{0, 2}) {
		t.Error("classes rise", a, b)
	}
	late := ready(t, "select a.x from a left join b on a.x = b.x join c on b.y = c.y and a.x = c.x")
	if a, b := place.Between(late, 2, 0); !slices.Equal(a, []int{0}) || !slices.Equal(b, []int{0}) {
		t.Error("keys of late tables", a, b)
	}
	if a, b := place.Between(late, 0, 2); !slices.Equal(a, []int{0}) || !slices.Equal(b, []int{0}) {
		t.Error("keys of late tables, from the core", a, b)
	}
	if a, b := place.Between(late, 1, 2); len(a) > 0 || len(b) > 0 {
		t.Error("two late tables", a, b)
	}
	odd := api.Norm{Scan: make([][]api.Expr, 2), Late: []api.Late{{Keys: []api.Edge{{A: 0, AC: 16, B: 2}, {A: -1, B: 2}, {A: 1, AC: 3, B: 2, BC: 7}}}}}
	if a, b := place.Between(odd, 2, 1); !slices.Equal(a, []int{7}) || !slices.Equal(b, []int{3}) {
		t.Error(a, b)
	}
	if a, b := place.Between(odd, 1, 2); !slices.Equal(a, []int{3}) || !slices.Equal(b, []int{7}) {
		t.Error(a, b)
	}
	if a, b := place.Between(odd, 0, 2); len(a) > 0 || len(b) > 0 {
		t.Error("a column past all", a, b)
	}
}

// P31.3
func TestAll(t *testing.T) {
	for _, c := range []struct {
		n     api.Norm
		order []int
		want  string
	}{
		{ready(t, "select a.x from a join b on a.x = b.x"), []int{0, 1}, "1(0)0(0)"},
		{ready(t, "select a.x from a join b on a.x = b.x"), []int{1, 0}, "0(0)1(0)"},
		{ready(t, "select a.x from a left join b on a.x = b.x"), []int{0, 1}, ""},
		{ready(t, "select a.x from a left join b on a.x = b.x"), []int{0}, ""},
		{ready(t, "select a.x from a anti join b on a.x = b.x"), []int{0}, ""},
		{ready(t, "select a.x from a semi join b on a.x = b.x"), []int{0}, "1(0)0(0)"},
		{mixed(t, "semi", "", "left"), []int{1, 0, 2}, "3(2)0(0) 4(0)0(0) 0(0)1(1) 2(2)1(2) 3(2,0,1)1(1,2,0) 4(0)1(1) 3(0)2(2) 2(2)5(1)"},
		{mixed(t, "anti", "left", "semi"), []int{1, 0, 2}, "0(0)1(1) 2(2)1(2) 5(1)1(2) 5(1)2(2) 0(0)3(2) 2(2)3(0) 0(0)4(0)"},
		{mixed(t, "anti", "left", "left"), []int{0, 2}, "2(2)3(0) 2(2)5(1)"},
		{mixed(t, "anti", "left", "left"), []int{0, 1, 2}, "1(1)0(0) 2(2)1(2) 1(1,2,0)3(2,0,1) 2(2)3(0) 1(1)4(0) 1(2)5(1) 2(2)5(1)"},
		{mixed(t, "anti", "left", "left"), nil, ""},
		{mixed(t, "semi", "", "semi"), []int{0, 0, 0, 0, 0, 2}, "3(2)0(0) 4(0)0(0) 2(2)3(0)"},
		{ready(t, "select a.x from a join b on a.x = b.x left join c on c.y = b.x"), []int{0, 1}, "1(0)0(0) 1(0)2(1)"},
		{ready(t, "select a.x from a join b on a.x = b.x left join c on c.y = b.x"), []int{1, 0}, "0(0)1(0) 0(0)2(1)"},
		{ready(t, "select a.x from a join b on a.x = b.x left join c on c.y = b.x anti join d on d.x = c.x"), []int{0, 1}, "1(0)0(0) 1(0)2(1)"},
		{api.Norm{}, []int{0}, ""},
	} {
		if got := show(place.All(c.n, c.order)); got != c.want {
			t.Error(c.order, got)
		}
	}
}

func said() []api.Stat {
	return []api.Stat{
		{Rows: 1000, Cols: []api.ColStat{{Unlike: 100}}}, {Rows: 300, Cols: []api.ColStat{{}, {Unlike: 900, Nulls: 100}, {Unlike: 40}}}, {Rows: 50},
		{Rows: 20, Cols: []api.ColStat{{Unlike: 20, Marks: []int{0, 1, 2, 3}}}}, {Rows: -3}, {Rows: math.MaxInt, Cols: []api.ColStat{{Unlike: 4}}},
	}
}

// P31.4
func TestRows(t *testing.T) {
	n := mixed(t, "semi", "", "left")
	for place1, want := range map[int]int{0: 1000, 1: 300, 2: 50, 3: 10, 4: 0, 5: api.MaxSat / 4, 6: 0, -1: 0} {
		if got := place.Rows(n, said(), place1); got != want {
			t.Error(place1, got)
		}
	}
	if place.Rows(n, nil, 5) != 0 || place.Rows(n, said()[:3], 3) != 0 {
		t.Error("what is wanting")
	}
	scan := ready(t, "select a.x from a where a.x is null")
	if got := place.Rows(scan, []api.Stat{{Rows: 30, Cols: []api.ColStat{{Nulls: 10}}}}, 0); got != 10 {
		t.Error(got)
	}
}

// P31.4
func TestPassing(t *testing.T) {
	n, s := mixed(t, "semi", "", "left"), said()
	for _, c := range []struct {
		f    api.Filter
		keys int
		of   int
	}{
		{api.Filter{From: 3, FromCols: []int{2}, To: 0, ToCols: []int{0}}, 10, 100},
		{api.Filter{From: 3, FromCols: []int{2, 0}, To: 1, ToCols: []int{1, 2}}, 10, 200},
		{api.Filter{From: 2, FromCols: []int{2}, To: 1, ToCols: []int{2}}, 50, 40},
		{api.Filter{From: 2, FromCols: []int{2}, To: 1, ToCols: []int{9}}, 50, 0},
		{api.Filter{From: 3, FromCols: []int{2}, To: 1, ToCols: []int{2}}, 10, 40},
		{api.Filter{From: 4, To: 9, ToCols: []int{0}}, 0, 0},
		{api.Filter{From: 77, To: 0, ToCols: []int{0}}, 0, 100},
		{api.Filter{From: 3, FromCols: []int{2}, To: 0, ToCols: []int{-1}}, 10, 0},
		{api.Filter{From: 3, FromCols: []int{2}, To: 0}, 10, 0},
		{api.Filter{From: 3, To: 0, ToCols: []int{}}, 10, 0},
		{api.Filter{From: 4, To: 0}, 0, 0},
		{api.Filter{}, 1000, 0},
	} {
		for _, size := range [][2]int{{1, 1}, {16, 3}, {0, 0}, {4096, 5}} {
			want := min(1<<16, sat.Add(cost.Pass(size[0], size[1], c.keys), frac.Scale(1<<16, frac.Of(c.keys, c.of))))
			if got := place.Passing(n, s, c.f, size[0], size[1]); got != want {
				t.Error(c, size, got, want)
			}
		}
	}
}

// P31.4: without ToCols 0 stands in the place of Unlike, so that all may pass, whatever is said of the table To.
func TestPassingWithoutColumns(t *testing.T) {
	n := ready(t, "select a.x from a join b on a.x = b.x")
	of := []api.ColStat{{Unlike: 500}, {Unlike: 700}}
	for _, from := range []api.Stat{{}, {Rows: 10, Cols: []api.ColStat{{Unlike: 10}}}, {Rows: math.MaxInt}, {Rows: -1}} {
		for _, to := range []api.Stat{{}, {Rows: 1000}, {Rows: 1000, Cols: of}} {
			s := []api.Stat{to, from}
			if got := place.Passing(n, s, api.Filter{From: 1}, 1, 1); got != 1<<16 {
				t.Error(from, to, got)
			}
			if got := place.Passing(n, s, api.Filter{From: 1, FromCols: []int{0}, ToCols: []int{}}, 4096, 5); got != 1<<16 {
				t.Error(from, to, got)
			}
		}
	}
	s := []api.Stat{{Rows: 1000, Cols: of}, {Rows: 10}}
	if got := place.Passing(n, s, api.Filter{From: 1, FromCols: []int{0}, ToCols: []int{0}}, 1, 1); got != 10856 {
		t.Error("a first column", got)
	}
}

// P31.4
func TestPick(t *testing.T) {
	picked, left := 0, 0
	for seed := range 200 {
		d := sample.New(seed)
		db := sample.Tables(d, 3)
		q, _ := deno.Ready(db, sample.Query(d, 2+d.To(4), sample.Joins(true)))
		n := norm.Of(q)
		var s []api.Stat
		var order []int
		for i := range q.From {
			s = append(s, api.Stat{Rows: d.To(300), Cols: []api.ColStat{{Unlike: d.To(200)}, {Unlike: d.To(200)}}})
			if i < n.Core {
				order = append([]int{i}, order...)
			}
		}
		words, bits := 1+d.To(40), 1+d.To(4)
		var want []api.Filter
		for _, f := range place.All(n, order) {
			if cost.Worth(place.Rows(n, s, f.To), place.Passing(n, s, f, words, bits)) {
				want = append(want, f)
				picked++
			} else {
				left++
			}
		}
		if got := place.Pick(n, s, order, words, bits); show(got) != show(want) {
			t.Error(show(got), show(want))
		}
	}
	if picked < 20 || left < 20 {
		t.Error(picked, left)
	}
}

// matched: is there a row of From, for which its Scan holds, that matches?
func matched(n api.Norm, tables []api.Table, f api.Filter, r []api.Val) bool {
	var scan []api.Expr
	if f.From < len(n.Scan) {
		scan = n.Scan[f.From]
	} else {
		scan = n.Late[f.From-len(n.Scan)].Scan
	}
	for _, x := range tables[f.From].Rows {
		if eval.Holds(scan, eval.With(nil, f.From, x)) && semi.Match(rows.Pick(x, f.FromCols), rows.Pick(r, f.ToCols)) {
			return true
		}
	}
	return false
}

// P31.5, and G2
func TestDroppedRowsMayGo(t *testing.T) {
	gone, late := 0, 0
	for seed := range 500 {
		d := sample.New(seed)
		db := sample.Tables(d, 5)
		q, e := deno.Ready(db, sample.Query(d, 2+d.To(3), sample.Joins(true)))
		if e != api.OK {
			t.Fatal(e)
		}
		n := norm.Of(q)
		order := sample.Order(d, n.Core)
		tables, _ := name.Tables(db, q.From)
		want, e := deno.Rows(deno.Where(deno.Envs(tables, q.From), q.Where), q)
		for _, f := range place.All(n, order) {
			j := q.From[f.From].Join
			if j == api.JoinLeft || j == api.JoinAnti || f.From == order[0] || place.Rank(n, order, f.From) <= place.Rank(n, order, f.To) {
				t.Error(print.Query(q), f)
			}
			for i, r := range tables[f.To].Rows {
				if matched(n, tables, f, r) {
					continue
				}
				gone++
				if f.To >= n.Core {
					late++
				}
				less := slices.Clone(tables)
				less[f.To].Rows = rows.Without(tables[f.To].Rows, i)
				got, g := deno.Rows(deno.Where(deno.Envs(less, q.From), q.Where), q)
				if g != e || !slices.EqualFunc(got, want, rows.Same) {
					t.Fatal(print.Query(q), f, r)
				}
			}
		}
	}
	if gone < 200 || late < 50 {
		t.Error(gone, late)
	}
}
