package ready_test

import (
	"math"
	"slices"
	"testing"

	"trommel/api"
	"trommel/deno"
	"trommel/norm"
	"trommel/place"
	"trommel/plan"
	"trommel/ready"
	"trommel/sample"
)

func pipes(needs ...[]int) api.Plan {
	p := api.Plan{}
	for _, l := range needs {
		p.Pipes = append(p.Pipes, api.Pipe{Needs: l})
	}
	return p
}

// P33.1
func TestReady(t *testing.T) {
	p := pipes([]int{1, 2}, nil, []int{1}, []int{9}, []int{-1}, []int{5}, []int{3, 1})
	for i, c := range []struct {
		done []bool
		want []int
	}{
		{nil, []int{1}},
		{[]bool{false, true}, []int{2}},
		{[]bool{false, true, true}, []int{0}},
		{[]bool{true, true, true}, nil},
		{[]bool{false, false, true}, []int{1}},
		{[]bool{true, false}, []int{1}},
		{[]bool{false, true, false, true}, []int{2, 6}},
		{slices.Repeat([]bool{true}, 20), nil},
		{append(make([]bool, 7), true, true, true), []int{1}},
		{[]bool{true, true, true, false, false, true}, nil},
	} {
		if got := ready.All(p, c.done); !slices.Equal(got, c.want) {
			t.Error(i, got)
		}
		for place := -2; place < 12; place++ {
			if ready.Ready(p, c.done, place) != slices.Contains(c.want, place) {
				t.Error(i, place)
			}
		}
	}
	if ready.Ready(p, nil, math.MaxInt) || ready.Ready(p, nil, math.MinInt) || ready.Ready(api.Plan{}, nil, 0) || len(ready.All(api.Plan{}, nil)) != 0 {
		t.Error("no such pipe")
	}
}

// P33.1: a Need that is no pipe never is done.
func TestNeedThatIsNone(t *testing.T) {
	if ready.Ready(pipes([]int{1}), []bool{false, true}, 0) {
		t.Error("past the end")
	}
}

// P33.2
func TestOrder(t *testing.T) {
	for i, c := range []struct {
		p      api.Plan
		order  []int
		levels []int
	}{
		{api.Plan{}, nil, nil},
		{pipes(nil, nil, nil), []int{0, 1, 2}, []int{1, 1, 1}},
		{pipes([]int{1, 2}, nil, []int{1}), []int{1, 2, 0}, []int{3, 1, 2}},
		{pipes([]int{2}, nil, nil, []int{0, 1}), []int{1, 2, 0, 3}, []int{2, 1, 1, 3}},
		{pipes([]int{0}, nil), []int{1}, []int{0, 1}},
		{pipes([]int{1}, []int{0}, nil, []int{2, 2}, []int{3, 0}), []int{2, 3}, []int{0, 0, 1, 2, 0}},
		{pipes([]int{7}, []int{-1}), nil, []int{0, 0}},
		{pipes([]int{2}, nil), []int{1}, []int{0, 1}},
		{pipes([]int{3}, []int{0}, []int{1}, nil), []int{3, 0, 1, 2}, []int{2, 3, 4, 1}},
	} {
		if got := ready.Order(c.p); !slices.Equal(got, c.order) || ready.Acyclic(c.p) != (len(c.order) == len(c.p.Pipes)) {
			t.Error(i, got)
		}
		for place, want := range c.levels {
			if got := ready.Level(c.p, place); got != want {
				t.Error(i, place, got)
			}
		}
		for _, place := range []int{-1, len(c.levels), math.MaxInt, math.MinInt} {
			if ready.Level(c.p, place) != 0 {
				t.Error(i, place)
			}
		}
	}
}

// P33.3
func TestBatches(t *testing.T) {
	for _, c := range [][3]int{
		{0, 5, 1}, {11, 5, 3}, {10, 5, 2}, {1, 5, 1}, {5, 5, 1}, {6, 5, 2}, {7, 0, 7}, {7, -3, 7}, {7, 1, 7}, {-4, 5, 1}, {math.MinInt, math.MinInt, 1},
		{math.MaxInt, math.MaxInt, 1}, {math.MaxInt, 1, math.MaxInt}, {math.MaxInt, 2, 1 << 62}, {5, math.MaxInt, 1},
	} {
		if got := ready.Batches(c[0], c[1]); got != c[2] {
			t.Error(c, got)
		}
	}
}

// P33.3
func TestBound(t *testing.T) {
	p := pipes(nil, nil, nil)
	for i, c := range []struct {
		rows  []int
		batch int
		want  int
	}{
		{nil, 5, 3}, {[]int{11, 5, 0}, 5, 5}, {[]int{11}, 5, 5}, {[]int{1, 2, 3, 400}, 1, 6}, {[]int{-5, 7}, 0, 9}, {[]int{math.MaxInt, math.MaxInt}, 1, api.MaxSat},
	} {
		if got := ready.Bound(p, c.rows, c.batch); got != c.want {
			t.Error(i, got)
		}
	}
	if ready.Bound(api.Plan{}, []int{5}, 1) != 0 {
		t.Error("of none")
	}
}

// P33.4, and G3
func TestPlans(t *testing.T) {
	for seed := range 300 {
		d := sample.New(seed)
		db := sample.Tables(d, 2)
		q, e := deno.Ready(db, sample.Query(d, 1+d.To(5), sample.Joins(seed%3 > 0)))
		if e != api.OK {
			t.Fatal(e)
		}
		n := norm.Of(q)
		ord := sample.Order(d, n.Core)
		p := plan.Of(n, ord, place.All(n, ord))
		order := ready.Order(p)
		if !ready.Acyclic(p) || order[len(order)-1] != plan.Driver(p) {
			t.Error(seed, order)
		}
		for set := range 1<<len(p.Pipes) - 1 {
			done := make([]bool, len(p.Pipes))
			for i := range done {
				done[i] = set>>i&1 == 1
			}
			if len(ready.All(p, done)) == 0 {
				t.Error(seed, done)
			}
		}
		rows, all, batch := []int{}, 0, 1+d.To(4)
		for range p.Pipes {
			rows = append(rows, d.To(30))
			all += rows[len(rows)-1]
		}
		if ready.Bound(p, rows, batch) > len(p.Pipes)+all/batch {
			t.Error(seed, rows, batch)
		}
	}
}
