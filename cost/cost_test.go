package cost_test

import (
	"math"
	"slices"
	"testing"

	"trommel/api"
	"trommel/cost"
	"trommel/frac"
	"trommel/sample"
	"trommel/sat"
	"trommel/tree"
	"trommel/val"
)

func col(t, c int) api.Expr { return api.Expr{Op: api.OpCol, T: t, C: c} }

func num(n int) api.Expr { return tree.Val(val.Int(n)) }

// stats: of two tables; the second column of the first one has more said of it than may be.
func stats() []api.Stat {
	return []api.Stat{
		{Rows: 100, Cols: []api.ColStat{
			{Unlike: 20, Nulls: 10, Marks: []int{1, 2, 3, 4, 5, 6, 7, 8, 9}},
			{Unlike: 500, Nulls: -5, Marks: []int{9, 1, 5, 5}},
			{Nulls: 400},
		}},
		{Rows: 1000, Cols: []api.ColStat{{Unlike: 50, Nulls: 500}, {Unlike: 300}}},
		{Rows: -7, Cols: []api.ColStat{{Unlike: 3}}},
	}
}

func bit(a, b float64) bool { return math.Float64bits(a) == math.Float64bits(b) }

// P29.1: a column, a sign, and a number.
func TestShareOfNumbers(t *testing.T) {
	s := stats()
	for _, c := range []struct {
		t, c, n int
		want    [6]float64 // by signs, without what is null
		filled  float64
	}{
		{0, 0, 4, [6]float64{1.0 / 20, 1 - 1.0/20, frac.Of(3, 9), frac.Of(4, 9), 1 - frac.Of(4, 9), 1 - frac.Of(3, 9)}, 0.9},
		{0, 0, 0, [6]float64{1.0 / 20, 1 - 1.0/20, 0, 0, 1, 1}, 0.9},
		{0, 0, 10, [6]float64{1.0 / 20, 1 - 1.0/20, 1, 1, 0, 0}, 0.9},
		{0, 1, 5, [6]float64{0.01, 0.99, 0.25, 0.75, 0.25, 0.75}, 1},
		{0, 2, 5, [6]float64{1, 0, 1, 1, 0, 0}, 0},
		{1, 0, 5, [6]float64{0.02, 0.98, 1, 1, 0, 0}, 0.5},
		{2, 0, 5, [6]float64{1, 0, 1, 1, 0, 0}, 1},
		{9, 9, 5, [6]float64{1, 0, 1, 1, 0, 0}, 1},
		{3, 0, 5, [6]float64{1, 0, 1, 1, 0, 0}, 1},
		{-1, -1, 5, [6]float64{1, 0, 1, 1, 0, 0}, 1},
		{0, 7, 5, [6]float64{1, 0, 1, 1, 0, 0}, 1},
	} {
		back := []int{api.OpEq, api.OpNe, api.OpGt, api.OpGe, api.OpLt, api.OpLe}
		for i, w := range c.want {
			want := frac.And(c.filled, w)
			if got := cost.Share(tree.Of(api.OpEq+i, col(c.t, c.c), num(c.n)), s); !bit(got, want) {
				t.Error(c, i, got, want)
			}
			if got := cost.Share(tree.Of(back[i], num(c.n), col(c.t, c.c)), s); !bit(got, want) {
				t.Error("turned", c, i, got, want)
			}
		}
	}
}

// P29.1
func TestShare(t *testing.T) {
	s := stats()
	of := tree.Of
	fifth, tenth := of(api.OpEq, col(0, 0), num(1)), of(api.OpIsNull, col(0, 0)) // 0.9 / 20, and 0.1
	for i, c := range []struct {
		e    api.Expr
		want float64
	}{
		{of(api.OpIsNull, col(0, 0)), 0.1}, {of(api.OpNotNull, col(0, 0)), 1 - 0.1}, {of(api.OpIsNull, col(1, 0)), 0.5}, {of(api.OpIsNull, col(2, 0)), 1}, {of(api.OpNotNull, col(5, 0)), 0},
		{of(api.OpIsNull, num(1)), 0.5}, {of(api.OpIsNull, col(0, 0), col(0, 0)), 0.5}, {of(api.OpIsNull), 0.5}, {of(api.OpIsNull, of(api.OpAdd, col(0, 0), num(1))), 0.5},
		{of(api.OpEq, col(0, 0), col(1, 1)), frac.Of(1, 300)}, {of(api.OpEq, col(0, 1), col(1, 0)), frac.Of(1, 100)}, {of(api.OpEq, col(0, 0), col(0, 1)), frac.Of(1, 100)},
		{of(api.OpEq, col(7, 0), col(8, 0)), 1}, {of(api.OpLt, col(0, 0), col(1, 1)), 0.5}, {of(api.OpNe, col(0, 0), col(1, 1)), 0.5},
		{of(api.OpAnd, fifth, tenth), frac.And(cost.Share(fifth, s), 0.1)}, {of(api.OpOr, fifth, tenth), frac.Or(cost.Share(fifth, s), 0.1)},
		{of(api.OpNot, tenth), 1 - 0.1}, {of(api.OpNot, of(api.OpNot, tenth)), frac.Not(frac.Not(0.1))},
		{of(api.OpAnd, fifth), 0.5}, {of(api.OpOr, fifth, tenth, tenth), 0.5}, {of(api.OpNot), 0.5}, {of(api.OpNot, tenth, tenth), 0.5},
		{of(api.OpEq, col(0, 0), tree.Val(val.Text("a"))), 0.5}, {of(api.OpEq, col(0, 0), tree.Val(val.Null())), 0.5}, {of(api.OpEq, num(1), num(1)), 0.5},
		{of(api.OpLt, tree.Val(val.Null()), col(0, 0)), 0.5}, {of(api.OpEq, col(0, 0)), 0.5}, {of(api.OpEq, col(0, 0), num(1), num(1)), 0.5},
		{of(api.OpEq, of(api.OpAdd, col(0, 0), num(1)), num(1)), 0.5}, {num(1), 0.5}, {tree.Val(val.Null()), 0.5}, {col(0, 0), 0.5}, {api.Expr{}, 0.5}, {of(99, col(0, 0), num(1)), 0.5},
		{of(api.OpSum, col(0, 0)), 0.5}, {of(api.OpAdd, col(0, 0), num(1)), 0.5}, {of(api.OpOr, num(1), num(1)), 0.75},
	} {
		if got := cost.Share(c.e, s); !bit(got, c.want) {
			t.Error(i, got, c.want)
		}
	}
	if s[0].Cols[1].Marks[0] != 9 {
		t.Error("what was handed in is another one")
	}
}

// norm: of three tables; the first two have two edges, the last two have one.
func norm() api.Norm {
	return api.Norm{
		Scan: [][]api.Expr{
			{tree.Of(api.OpIsNull, col(0, 0)), tree.Of(api.OpEq, col(0, 1), num(5))}, nil, {num(1)},
		},
		Edges: []api.Edge{{A: 0, AC: 0, B: 1, BC: 0}, {A: 1, AC: 1, B: 2, BC: 0}, {A: 0, AC: 1, B: 1, BC: 1}},
	}
}

func said() []api.Stat {
	s := stats()
	s[2] = api.Stat{Rows: 40, Cols: []api.ColStat{{Unlike: 7}}}
	return s
}

// P29.2
func TestScanPair(t *testing.T) {
	n, s := norm(), said()
	for place, want := range map[int]int{0: 1, 1: 1000, 2: 20, 3: 0, -1: 0, math.MaxInt: 0} {
		if got := cost.Scan(n, s, place); got != want {
			t.Error(place, got)
		}
	}
	if cost.Scan(n, nil, 1) != 0 || cost.Scan(api.Norm{Scan: make([][]api.Expr, 1)}, []api.Stat{{Rows: math.MaxInt}}, 0) != api.MaxSat {
		t.Error("what is said")
	}
	for _, c := range []struct {
		a, b int
		want float64
	}{
		{0, 1, frac.And(frac.Of(1, 50), frac.Of(1, 300))}, {1, 0, frac.And(frac.Of(1, 50), frac.Of(1, 300))}, {1, 2, frac.Of(1, 300)}, {0, 2, 1}, {0, 0, 1}, {5, -5, 1},
	} {
		if got := cost.Pair(n, s, c.a, c.b); !bit(got, c.want) {
			t.Error(c, got)
		}
	}
}

// P29.3
func TestSize(t *testing.T) {
	n, s := norm(), said()
	for _, c := range []struct {
		set  []int
		want int
	}{
		{nil, 1}, {[]int{1}, 1000}, {[]int{2, 1}, frac.Scale(20000, frac.Of(1, 300))}, {[]int{1, 2, 1, -1, 9, 2}, frac.Scale(20000, frac.Of(1, 300))}, {[]int{0, 2}, 20},
		{[]int{2, 0, 1}, frac.Scale(20000, frac.And(cost.Pair(n, s, 0, 1), cost.Pair(n, s, 0, 2), cost.Pair(n, s, 1, 2)))}, {[]int{7}, 1}, {[]int{3}, 1}, {[]int{1, 3}, 1000},
	} {
		in := slices.Clone(c.set)
		if got := cost.Size(n, s, in); got != c.want || !slices.Equal(in, c.set) {
			t.Error(c.set, got, c.want)
		}
	}
	great := []api.Stat{{Rows: 1 << 40}, {Rows: 1 << 40}}
	if got := cost.Size(api.Norm{Scan: make([][]api.Expr, 2)}, great, []int{0, 1}); got != api.MaxSat {
		t.Error(got)
	}
}

// the order of the pairs is to be seen where products are rounded.
func TestSizeOrder(t *testing.T) {
	for seed := range 300 {
		d := sample.New(seed)
		n := api.Norm{Scan: make([][]api.Expr, 4)}
		var s []api.Stat
		for range 4 {
			s = append(s, api.Stat{Rows: 1 << 50, Cols: []api.ColStat{{Unlike: 1 + d.To(30)}}})
		}
		for range 5 {
			a, b := d.To(4), d.To(4)
			if a < b {
				n.Edges = append(n.Edges, api.Edge{A: a, B: b})
			}
		}
		var shares []float64
		for a := range 4 {
			for b := a + 1; b < 4; b++ {
				shares = append(shares, cost.Pair(n, s, a, b))
			}
		}
		if got := cost.Size(n, s, []int{3, 1, 0, 2}); got != frac.Scale(api.MaxSat, frac.And(shares...)) {
			t.Error(n.Edges, got)
		}
	}
}

// pass is Pass, from the promise's own words.
func pass(words, bits, keys int) int {
	words, bits = min(4096, max(1, words)), min(5, max(1, bits))
	k := min(1000, sat.Div(sat.Mul(bits, keys), words))
	u, r := 1<<16, 1<<16
	for i := 0; i < k; i++ {
		u = (u*63 + 63) / 64
	}
	for i := 0; i < bits; i++ {
		r = (r*(1<<16-u) + 1<<16 - 1) / (1 << 16)
	}
	return r
}

// P29.4, P29.5
func TestPass(t *testing.T) {
	if cost.Pass(1, 1, 0) != 0 || cost.Pass(1, 1, 1) != 1024 || cost.Pass(1, 1, -5) != 0 {
		t.Error("examples")
	}
	sizes := []int{math.MinInt, 0, 1, 2, 7, 64, 4096, 4097, math.MaxInt}
	keys := []int{math.MinInt, -1, 0, 1, 2, 10, 63, 64, 999, 1000, 1001, 5000, 1 << 20, 1 << 62, math.MaxInt}
	for bits := -1; bits < 8; bits++ {
		for i, words := range sizes {
			last := 0
			for _, n := range keys {
				got := cost.Pass(words, bits, n)
				if got != pass(words, bits, n) {
					t.Error(words, bits, n, got)
				}
				if got < last || got > 1<<16 || i > 0 && got > cost.Pass(sizes[i-1], bits, n) {
					t.Error("bounds", words, bits, n, got)
				}
				last = got
			}
		}
	}
}

// P29.4, P29.5
func TestGainWorth(t *testing.T) {
	for _, c := range []struct {
		rows, pass, gain int
		worth            bool
	}{
		{100, 1 << 15, 50, true}, {100, 0, 100, true}, {100, 1 << 16, 0, false}, {100, 1 << 20, 0, false}, {100, -1, 100, true}, {0, 0, 0, false}, {-5, 0, 0, false},
		{100, 3 << 14, 25, false}, {100, 3<<14 - 700, 26, true}, {1, 1, 0, false}, {api.MaxSat, 0, api.MaxSat, false}, {math.MaxInt, 1 << 15, 1 << 61, false}, {1 << 59, 1 << 15, 1 << 58, true},
	} {
		if got := cost.Gain(c.rows, c.pass); got != c.gain || cost.Worth(c.rows, c.pass) != c.worth {
			t.Error(c, got, cost.Worth(c.rows, c.pass))
		}
	}
	for rows := range 50 {
		last := rows
		for p := 0; p <= 1<<16; p += 1000 {
			g := cost.Gain(rows, p)
			if g > last || g < 0 {
				t.Error(rows, p, g)
			}
			last = g
		}
	}
}

// P29.5
func TestShareIsOne(t *testing.T) {
	for seed := range 300 {
		d := sample.New(seed)
		s := []api.Stat{{Rows: d.To(30) - 3, Cols: []api.ColStat{{Unlike: d.To(40) - 5, Nulls: d.To(40) - 5, Marks: []int{d.To(9), d.To(9), d.To(9)}}}}}
		var e api.Expr = num(d.To(9))
		for range 1 + d.To(6) {
			switch d.To(5) {
			case 0:
				e = tree.Of(api.OpNot, e)
			case 1:
				e = tree.Of(api.OpAnd+d.To(2), e, tree.Of(api.OpIsNull+d.To(2), col(0, d.To(2))))
			default:
				e = tree.Of(api.OpAnd+d.To(2), e, tree.Of(api.OpEq+d.To(6), num(d.To(9)), col(0, d.To(2))))
			}
		}
		if f := cost.Share(e, s); !bit(frac.Clean(f), f) {
			t.Error(e, f)
		}
	}
}
