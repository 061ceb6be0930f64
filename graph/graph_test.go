package graph_test

import (
	"slices"
	"testing"

	"trommel/api"
	"trommel/deno"
	"trommel/graph"
	"trommel/norm"
	"trommel/sample"
)

func same(a, b [][]int) bool { return slices.EqualFunc(a, b, slices.Equal) }

// P21.1
func TestOf(t *testing.T) {
	n := api.Norm{
		Scan: make([][]api.Expr, 4),
		Edges: []api.Edge{
			{A: 0, AC: 3, B: 1, BC: 0}, {A: 0, AC: 1, B: 1, BC: 2}, {A: 1, AC: 0, B: 2, BC: 5}, {A: 0, AC: 3, B: 2, BC: 6},
			{A: 9, AC: 1, B: 11, BC: 0}, {A: 2, AC: 16, B: 4, BC: 1},
		},
	}
	if got := graph.Of(n); !same(got, [][]int{{1, 3}, {1, 3}, {3}, {}}) {
		t.Error(got)
	}
	if len(graph.Of(api.Norm{})) != 0 {
		t.Error("of none")
	}
	if got := graph.Of(api.Norm{Scan: make([][]api.Expr, 2)}); !same(got, [][]int{nil, nil}) {
		t.Error(got)
	}
}

// P21.1, P21.4
func TestOfQueries(t *testing.T) {
	for seed := range 300 {
		d := sample.New(seed)
		db := sample.Tables(d, 1)
		q, _ := deno.Ready(db, sample.Query(d, 1+d.To(6), sample.Joins(seed%3 == 0)))
		n := norm.Of(q)
		h := graph.Of(n)
		if len(h) != n.Core || !graph.Right(h) {
			t.Error(seed, h)
		}
		for _, v := range graph.Vertices(h) {
			if graph.Degree(h, v) < 2 {
				t.Error(seed, h, v)
			}
		}
		for _, e := range n.Edges {
			v := norm.Classes(n).Find(norm.Column(e.A, e.AC))
			if !slices.Contains(h[e.A], v) || !slices.Contains(h[e.B], v) {
				t.Error(seed, e)
			}
		}
	}
}

// P21.2
func TestRight(t *testing.T) {
	for i, c := range []struct {
		h    [][]int
		want bool
	}{
		{nil, true}, {[][]int{nil, {1}, {-3, 0, 7}}, true}, {[][]int{{1, 2}, {2, 1}}, false}, {[][]int{{1, 1}}, false}, {[][]int{{1, 3, 2}, {1}}, false},
	} {
		if graph.Right(c.h) != c.want {
			t.Error(i)
		}
	}
}

// P21.2
func TestSets(t *testing.T) {
	h := [][]int{{3, 1, 3, -2}, nil, {5}, {2, 2}}
	got := graph.Sets(h)
	if !same(got, [][]int{{-2, 1, 3}, {}, {5}, {2}}) || !slices.Equal(h[0], []int{3, 1, 3, -2}) {
		t.Error(got, h)
	}
	if !slices.Equal(graph.Vertices(h), []int{-2, 1, 2, 3, 5}) || len(graph.Vertices(nil)) != 0 {
		t.Error(graph.Vertices(h))
	}
	got[2][0] = 9
	if h[2][0] != 5 {
		t.Error("shared")
	}
}

// P21.2
func TestDegree(t *testing.T) {
	h := [][]int{{3, 1, 3}, nil, {3}, {2, 2}}
	for v, want := range map[int]int{3: 2, 1: 1, 2: 1, 0: 0, -1: 0} {
		if graph.Degree(h, v) != want {
			t.Error(v, graph.Degree(h, v))
		}
	}
}

// P21.2
func TestSharedWithin(t *testing.T) {
	for i, c := range []struct {
		a, b, shared []int
		within       bool
	}{
		{nil, nil, nil, true}, {nil, []int{1}, nil, true}, {[]int{1}, nil, nil, false},
		{[]int{5, 1, 1, 3}, []int{3, 5, 5, 9}, []int{3, 5}, false},
		{[]int{2, 2}, []int{7, 2}, []int{2}, true}, {[]int{7, 2}, []int{2}, []int{2}, false},
		{[]int{3, 1}, []int{1, 2, 3}, []int{1, 3}, true}, {[]int{4}, []int{5}, nil, false},
	} {
		if got := graph.Shared(c.a, c.b); !slices.Equal(got, c.shared) || graph.Within(c.a, c.b) != c.within {
			t.Error(i, got, graph.Within(c.a, c.b))
		}
	}
}

// P21.3
func TestParts(t *testing.T) {
	for i, c := range []struct{ h, want [][]int }{
		{[][]int{{1, 2}, {3}, {2, 4}}, [][]int{{0, 2}, {1}}},
		{nil, nil},
		{[][]int{nil, {1}, nil, {1}}, [][]int{{0}, {1, 3}, {2}}},
		{[][]int{{1}, {9}, {5, 6}, {6, 1}, {9, 9}, {7}}, [][]int{{0, 2, 3}, {1, 4}, {5}}},
		{[][]int{{4}, {3, 4}, {2, 3}, {1, 2}}, [][]int{{0, 1, 2, 3}}},
		{[][]int{{1}, {3}, {2, 3}, {2, 1}}, [][]int{{0, 1, 2, 3}}},
		{[][]int{{-1}, {1}, {-1, 0}}, [][]int{{0, 2}, {1}}},
	} {
		if got := graph.Parts(c.h); !same(got, c.want) {
			t.Error(i, got)
		}
	}
	many := make([][]int, 1<<17)
	for i := range many {
		many[i] = []int{i % 100000, i % 3}
	}
	if got := graph.Parts(many); len(got) != 1 || len(got[0]) != len(many) {
		t.Error("many edges", len(got))
	}
}

// Lists that are answered are no one else's.
func TestOwnMemory(t *testing.T) {
	got := graph.Parts([][]int{{1}, {2}, {1}})
	got[0] = append(got[0], 77)
	got[0][0] = 99
	if !slices.Equal(got[1], []int{1}) {
		t.Error(got)
	}
}
