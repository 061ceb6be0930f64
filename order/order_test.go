package order_test

import (
	"math"
	"slices"
	"testing"

	"trommel/api"
	"trommel/cost"
	"trommel/order"
	"trommel/sample"
	"trommel/sat"
)

func core(n int) api.Norm { return api.Norm{Scan: make([][]api.Expr, n)} }

func rows(l ...int) []api.Stat {
	out := []api.Stat{}
	for _, n := range l {
		out = append(out, api.Stat{Rows: n})
	}
	return out
}

// P30.1
func TestRight(t *testing.T) {
	for i, c := range []struct {
		n     int
		order []int
		want  bool
	}{
		{0, nil, true}, {1, []int{0}, true}, {3, []int{2, 0, 1}, true}, {3, []int{0, 1}, false}, {3, []int{0, 1, 2, 2}, false}, {3, []int{0, 1, 1}, false}, {3, []int{0, 1, 3}, false},
		{3, []int{0, 1, -1}, false}, {0, []int{0}, false}, {1, nil, false}, {2, []int{1, 0, 5}, false},
	} {
		if order.Right(core(c.n), c.order) != c.want {
			t.Error(i)
		}
	}
	in := []int{2, 0, 1}
	order.Right(core(3), in)
	if in[0] != 2 {
		t.Error("what was handed in is another one")
	}
}

// P30.1
func TestCost(t *testing.T) {
	n, s := core(3), rows(10, 100, 1)
	for _, c := range []struct {
		order []int
		want  int
	}{
		{[]int{1, 2, 0}, 1 + 100 + 10 + 1000}, {[]int{0, 1, 2}, 100 + 1000 + 1 + 1000}, {[]int{0}, 0}, {nil, 0}, {[]int{2, 2}, 1 + 1}, {[]int{2, 9}, 0 + 1}, {[]int{-1, 0}, 10 + 10},
	} {
		if got := order.Cost(n, s, c.order); got != c.want {
			t.Error(c.order, got)
		}
	}
	if got := order.Cost(core(2), rows(math.MaxInt, math.MaxInt), []int{0, 1}); got != api.MaxSat {
		t.Error(got)
	}
}

// P30.2
func TestBest(t *testing.T) {
	for i, c := range []struct {
		rows, want []int
	}{
		{nil, nil}, {[]int{5}, []int{0}}, {[]int{10, 100, 1}, []int{1, 2, 0}}, {[]int{5, 5}, []int{1, 0}}, {[]int{5, 6}, []int{1, 0}}, {[]int{6, 5}, []int{0, 1}},
		{[]int{0, 0, 0}, []int{2, 1, 0}}, {[]int{1, 2, 3, 4, 5, 6, 7}, nil},
	} {
		if got := order.Best(core(len(c.rows)), rows(c.rows...)); !slices.Equal(got, c.want) {
			t.Error(i, got)
		}
	}
}

// P30.2
func TestGreedy(t *testing.T) {
	for i, c := range []struct {
		rows, want []int
	}{
		{nil, nil}, {[]int{5}, []int{0}}, {[]int{10, 100, 1}, []int{1, 2, 0}}, {[]int{5, 5, 5}, []int{0, 1, 2}}, {[]int{1, 5, 1, 5}, []int{1, 0, 2, 3}}, {[]int{0, 0}, []int{0, 1}},
		{[]int{9, 8, 7, 6, 5, 4, 3, 2}, []int{0, 7, 6, 5, 4, 3, 2, 1}},
	} {
		if got := order.Greedy(core(len(c.rows)), rows(c.rows...)); !slices.Equal(got, c.want) {
			t.Error(i, got)
		}
	}
}

// some makes a core with edges, and what is said of it.
func some(d *sample.Dice, count int) (api.Norm, []api.Stat) {
	n := core(count)
	var s []api.Stat
	for range count {
		s = append(s, api.Stat{Rows: 1 + d.To(200), Cols: []api.ColStat{{Unlike: 1 + d.To(50)}, {Unlike: 1 + d.To(9)}}})
	}
	for range d.To(2 * count) {
		a, b := d.To(count), d.To(count)
		if a < b {
			n.Edges = append(n.Edges, api.Edge{A: a, AC: d.To(2), B: b, BC: d.To(2)})
		}
	}
	return n, s
}

// bestOf is Best of a set, from the promise's own words.
func bestOf(n api.Norm, s []api.Stat, set []int) []int {
	if len(set) < 2 {
		return slices.Clone(set)
	}
	var out []int
	least := 0
	for i, last := range set {
		ahead := bestOf(n, s, slices.Delete(slices.Clone(set), i, i+1))
		c := sat.Add(order.Cost(n, s, ahead), cost.Scan(n, s, last), cost.Size(n, s, set))
		if out == nil || c < least {
			out, least = append(ahead, last), c
		}
	}
	return out
}

func permutations(l []int) [][]int {
	if len(l) == 0 {
		return [][]int{nil}
	}
	var out [][]int
	for i, x := range l {
		for _, p := range permutations(slices.Delete(slices.Clone(l), i, i+1)) {
			out = append(out, append([]int{x}, p...))
		}
	}
	return out
}

// P30.1, P30.2, P30.4
func TestBestOfAll(t *testing.T) {
	for seed := range 60 {
		d := sample.New(seed)
		count := 1 + d.To(5)
		n, s := some(d, count)
		all := []int{0, 1, 2, 3, 4, 5}[:count]
		best := order.Best(n, s)
		if !order.Right(n, best) || !slices.Equal(best, bestOf(n, s, all)) || !slices.Equal(order.Pick(n, s), best) {
			t.Fatal(n.Edges, best, bestOf(n, s, all))
		}
		for _, p := range permutations(all) {
			if order.Cost(n, s, p) < order.Cost(n, s, best) {
				t.Error(best, p)
			}
		}
	}
}

// P30.2, P30.3: a core of just MaxBest tables has a best order, which Pick takes.
func TestMostBest(t *testing.T) {
	unlike := 0
	for seed := range 20 {
		n, s := some(sample.New(seed), api.MaxBest)
		best := order.Best(n, s)
		if !order.Right(n, best) || !slices.Equal(order.Pick(n, s), best) {
			t.Error(best)
		}
		if !slices.Equal(best, order.Greedy(n, s)) {
			unlike++
		}
		n, s = some(sample.New(seed), api.MaxBest+1)
		if len(order.Best(n, s)) != 0 || !slices.Equal(order.Pick(n, s), order.Greedy(n, s)) {
			t.Error("one more")
		}
	}
	if unlike == 0 {
		t.Error("Best and Greedy are not told apart")
	}
}

// P30.2, P30.3, P30.4
func TestGreedySteps(t *testing.T) {
	for seed := range 60 {
		d := sample.New(seed)
		n, s := some(d, 6+d.To(3))
		got := order.Greedy(n, s)
		if !order.Right(n, got) {
			t.Fatal(got)
		}
		for i, at := range got {
			for t2 := range n.Scan {
				if slices.Contains(got[:i], t2) || t2 == at {
					continue
				}
				better := i == 0 && cost.Scan(n, s, t2) > cost.Scan(n, s, at)
				same := i == 0 && cost.Scan(n, s, t2) == cost.Scan(n, s, at)
				if i > 0 {
					a, b := cost.Size(n, s, append(slices.Clone(got[:i]), t2)), cost.Size(n, s, got[:i+1])
					better, same = a < b, a == b
				}
				if better || same && t2 < at {
					t.Error(got, i, t2)
				}
			}
		}
		if len(n.Scan) > api.MaxBest && (len(order.Best(n, s)) != 0 || !slices.Equal(order.Pick(n, s), got)) {
			t.Error("Pick", len(n.Scan))
		}
	}
}
