package gyo_test

import (
	"slices"
	"testing"

	"trommel/api"
	"trommel/gyo"
	"trommel/sample"
)

func triangle() [][]int { return [][]int{{1, 2}, {2, 3}, {1, 3}} }

func all(n int) []bool { return slices.Repeat([]bool{true}, n) }

// P22.1
func TestEar(t *testing.T) {
	h := [][]int{{1, 2}, {2, 3, 4}, {4, 5}, {9}}
	for i, c := range []struct {
		left   []bool
		edge   int
		parent int
		ok     bool
	}{
		{all(4), 0, 1, true},
		{all(4), 1, 0, false},
		{all(4), 2, 1, true},
		{all(4), 3, 0, true},
		{all(4), -1, 0, false},
		{all(4), 4, 0, false},
		{all(9), 4, 0, false},
		{[]bool{true, true}, 1, 0, true},
		{[]bool{true, true}, 2, 0, false},
		{[]bool{false, true, true, true}, 0, 0, false},
		{[]bool{false, true, true, true}, 1, 2, true},
		{[]bool{true, false, true, true}, 2, 0, true},
		{[]bool{false, false, true, true}, 3, 2, true},
		{[]bool{false, true}, 1, 0, false},
		{[]bool{true}, 0, 0, false},
		{nil, 0, 0, false},
	} {
		if parent, ok := gyo.Ear(h, c.left, c.edge); parent != c.parent || ok != c.ok {
			t.Error(i, parent, ok)
		}
	}
	same := [][]int{{2, 1, 1}, {1, 2}, {1, 2}}
	if parent, ok := gyo.Ear(same, all(3), 1); parent != 0 || !ok {
		t.Error(parent, ok)
	}
	for i := range 3 {
		if _, ok := gyo.Ear(triangle(), all(3), i); ok {
			t.Error(i)
		}
	}
}

// P22.2
func TestEars(t *testing.T) {
	for i, c := range []struct {
		h    [][]int
		ears []api.Ear
		left []int
	}{
		{nil, nil, nil},
		{[][]int{{1, 2}}, nil, []int{0}},
		{[][]int{nil, nil}, []api.Ear{{Edge: 0, Parent: 1}}, []int{1}},
		{triangle(), nil, []int{0, 1, 2}},
		{append(triangle(), []int{1, 2, 3}), []api.Ear{{Edge: 0, Parent: 3}, {Edge: 1, Parent: 3}, {Edge: 2, Parent: 3}}, []int{3}},
		{[][]int{{1, 2, 3}, {1, 2}, {3}}, []api.Ear{{Edge: 1, Parent: 0}, {Edge: 0, Parent: 2}}, []int{2}},
		{append(triangle(), []int{1, 7}), []api.Ear{{Edge: 3, Parent: 0}}, []int{0, 1, 2}},
		{[][]int{{2, 3}, {1, 2}, {3, 4}}, []api.Ear{{Edge: 1, Parent: 0}, {Edge: 0, Parent: 2}}, []int{2}},
		{[][]int{{5}, {1, 2}, {2, 3}, {3, 1}}, []api.Ear{{Edge: 0, Parent: 1}}, []int{1, 2, 3}},
	} {
		if got := gyo.Ears(c.h); !slices.Equal(got, c.ears) {
			t.Error(i, got)
		}
		if got := gyo.Left(c.h); !slices.Equal(got, c.left) || gyo.Acyclic(c.h) != (len(c.left) <= 1) {
			t.Error(i, got)
		}
	}
}

// P22.3
func TestParents(t *testing.T) {
	for i, c := range []struct {
		h    [][]int
		want []int
		ok   bool
	}{
		{nil, nil, true},
		{[][]int{{1}}, []int{-1}, true},
		{triangle(), nil, false},
		{append(triangle(), []int{1, 2, 3}), []int{3, 3, 3, -1}, true},
		{[][]int{{2, 3}, {1, 2}, {3, 4}}, []int{2, 0, -1}, true},
	} {
		if got, ok := gyo.Parents(c.h); !slices.Equal(got, c.want) || ok != c.ok {
			t.Error(i, got, ok)
		}
	}
}

// tree: are the parents a tree of all edges, in which those that have a vertex hang together?
func tree(h [][]int, parents []int) bool {
	roots := 0
	for i := range parents {
		steps := 0
		for k := i; k >= 0; k = parents[k] {
			if steps++; steps > len(parents) {
				return false
			}
		}
		if parents[i] < 0 {
			roots++
		}
	}
	if roots != 1 {
		return false
	}
	for v := range 6 {
		tops, some := 0, false
		for i, edge := range h {
			if slices.Contains(edge, v) {
				some = true
				if parents[i] < 0 || !slices.Contains(h[parents[i]], v) {
					tops++
				}
			}
		}
		if some && tops != 1 {
			return false
		}
	}
	return true
}

// exists: is there such a tree?
func exists(h [][]int, parents []int, at int) bool {
	if at == len(h) {
		return tree(h, parents)
	}
	for p := -1; p < len(h); p++ {
		parents[at] = p
		if exists(h, parents, at+1) {
			return true
		}
	}
	return false
}

// P22.4
func TestTreeJustIfAcyclic(t *testing.T) {
	cyclic := 0
	for seed := range 400 {
		d := sample.New(seed)
		h := make([][]int, 1+d.To(4))
		for i := range h {
			for range d.To(4) {
				h[i] = append(h[i], d.To(5))
			}
		}
		parents, ok := gyo.Parents(h)
		if want := exists(h, make([]int, len(h)), 0); ok != want || gyo.Acyclic(h) != want {
			t.Fatal(h, ok, want)
		}
		if ok && !tree(h, parents) {
			t.Error(h, parents)
		}
		if !ok {
			cyclic++
		}
	}
	if cyclic == 0 {
		t.Error("none is cyclic")
	}
}
