package jtree_test

import (
	"slices"
	"testing"

	"trommel/gyo"
	"trommel/jtree"
	"trommel/sample"
)

func wrong() [][]int {
	return [][]int{{0}, {1, 0}, {-1, -1}, {-1, 2, 1}, {-2}, {-1, -2}, {-1, 2}, {-1, 5, 0}, {1, 2, 3, 3}, {-1, 0, 3, 2, 0}, {3, -1, 0, 2}, {-1, 1 << 40}}
}

// P23.1
func TestRight(t *testing.T) {
	for _, l := range [][]int{nil, {-1}, {-1, 0}, {1, -1}, {-1, 0, 0, 1}, {2, 0, 3, -1}, {4, 4, 4, 4, -1}} {
		if !jtree.Right(l) {
			t.Error(l)
		}
	}
	for _, l := range wrong() {
		if jtree.Right(l) {
			t.Error(l)
		}
	}
	long := make([]int, 1<<16)
	for i := range long {
		long[i] = i + 1
	}
	if jtree.Right(long) {
		t.Error("past the end")
	}
	long[len(long)-1] = -1
	if !jtree.Right(long) || jtree.Depth(long, 0) != 1<<16-1 || jtree.Down(long)[0] != 1<<16-1 {
		t.Error("a long way")
	}
}

// P23.1: as the empty list.
func TestWrong(t *testing.T) {
	for _, l := range append(wrong(), nil) {
		for i := -2; i < 6; i++ {
			if jtree.Root(l) != -1 || len(jtree.Children(l, i)) != 0 || jtree.Depth(l, i) != -1 || len(jtree.Down(l)) != 0 || len(jtree.Path(l, i, 0)) != 0 || len(jtree.Rooted(l, i)) != 0 {
				t.Error(l, i)
			}
		}
	}
}

func example() []int { return []int{-1, 0, 0, 1} }

// P23.2
func TestDown(t *testing.T) {
	if got := jtree.Down(example()); !slices.Equal(got, []int{0, 1, 2, 3}) {
		t.Error(got)
	}
	other := []int{4, 3, 3, -1, 3, 0, 2}
	if got := jtree.Down(other); !slices.Equal(got, []int{3, 1, 2, 4, 0, 6, 5}) || jtree.Root(other) != 3 {
		t.Error(got)
	}
	for i, want := range []int{2, 1, 1, 0, 1, 3, 2} {
		if jtree.Depth(other, i) != want {
			t.Error(i, jtree.Depth(other, i))
		}
	}
	for i, want := range map[int][]int{-1: nil, -2: nil, 0: {5}, 1: nil, 3: {1, 2, 4}, 7: nil} {
		if got := jtree.Children(other, i); !slices.Equal(got, want) {
			t.Error(i, got)
		}
	}
	if jtree.Depth(other, -1) != -1 || jtree.Depth(other, 7) != -1 {
		t.Error("no node")
	}
}

// P23.3
func TestPath(t *testing.T) {
	for _, c := range []struct {
		a, b int
		want []int
	}{
		{3, 2, []int{3, 1, 0, 2}}, {2, 3, []int{2, 0, 1, 3}}, {3, 0, []int{3, 1, 0}}, {0, 3, []int{0, 1, 3}}, {1, 1, []int{1}}, {0, 0, []int{0}}, {1, 3, []int{1, 3}},
		{-1, 0, nil}, {0, 4, nil}, {4, 4, nil}, {-1, -1, nil},
	} {
		if got := jtree.Path(example(), c.a, c.b); !slices.Equal(got, c.want) {
			t.Error(c.a, c.b, got)
		}
	}
}

// P23.3
func TestRooted(t *testing.T) {
	for r, want := range map[int][]int{3: {1, 3, 0, -1}, 0: example(), 1: {1, -1, 0, 1}, 2: {2, 0, -1, 1}, -1: example(), 4: example(), 1 << 40: example()} {
		in := example()
		got := jtree.Rooted(in, r)
		if !slices.Equal(got, want) || !slices.Equal(in, example()) {
			t.Error(r, got)
		}
		got[0] = 9
		if in[0] != -1 {
			t.Error("shared")
		}
	}
}

// check is Check, from the promise's own words.
func check(h [][]int, parents []int) bool {
	if !jtree.Right(parents) || len(h) != len(parents) {
		return false
	}
	for a := range h {
		for b := range h {
			for _, k := range jtree.Path(parents, a, b) {
				for _, v := range h[a] {
					if slices.Contains(h[b], v) && !slices.Contains(h[k], v) {
						return false
					}
				}
			}
		}
	}
	return true
}

// P23.4, P23.5
func TestCheck(t *testing.T) {
	for i, c := range []struct {
		h       [][]int
		parents []int
		want    bool
	}{
		{nil, nil, true},
		{[][]int{{1}}, []int{-1}, true},
		{[][]int{{1}}, nil, false},
		{nil, []int{-1}, false},
		{[][]int{{1}}, []int{0}, false},
		{[][]int{{1, 1, 2}, {2, 3}, {3}}, []int{-1, 0, 1}, true},
		{[][]int{{1, 2}, {2, 3}, {3}}, []int{-1, 0, 0}, false},
		{[][]int{{1}, {2}, {3}}, []int{-1, 0, 0}, true},
		{[][]int{{1}, {}, {1}}, []int{-1, 0, 1}, false},
		{[][]int{{1, 2}, {2, 3}, {1, 3}}, []int{-1, 0, 1}, false},
	} {
		if jtree.Check(c.h, c.parents) != c.want {
			t.Error(i)
		}
	}
	yes := 0
	for seed := range 3000 {
		d := sample.New(seed)
		h, parents := make([][]int, 1+d.To(5)), []int{-1}
		for i := range h {
			for range d.To(4) {
				h[i] = append(h[i], d.To(4))
			}
			if i > 0 {
				parents = append(parents, d.To(i))
			}
		}
		parents = jtree.Rooted(parents, d.To(len(parents)))
		want := check(h, parents)
		if jtree.Check(h, parents) != want {
			t.Fatal(h, parents, want)
		}
		if want {
			yes++
		}
		for r := range h {
			if jtree.Check(h, jtree.Rooted(parents, r)) != want {
				t.Error("another root", h, parents, r)
			}
		}
	}
	if yes < 50 || yes > 2950 {
		t.Error(yes)
	}
}

// P23.3: the same pairs.
func TestRootedPairs(t *testing.T) {
	pairs := func(parents []int) [][2]int {
		var out [][2]int
		for i, p := range parents {
			if p >= 0 {
				out = append(out, [2]int{min(i, p), max(i, p)})
			}
		}
		slices.SortFunc(out, func(a, b [2]int) int { return (a[0]-b[0])*100 + a[1] - b[1] })
		return out
	}
	for seed := range 200 {
		d := sample.New(seed)
		parents := []int{-1}
		for i := 1; i < 1+d.To(8); i++ {
			parents = append(parents, d.To(i))
		}
		for r := range parents {
			got := jtree.Rooted(parents, r)
			if !jtree.Right(got) || jtree.Root(got) != r || !slices.Equal(pairs(got), pairs(parents)) {
				t.Fatal(parents, r, got)
			}
			parents = got
		}
	}
}

// P23.5
func TestParentsAreOne(t *testing.T) {
	for seed := range 500 {
		d := sample.New(seed)
		h := make([][]int, d.To(6))
		for i := range h {
			for range d.To(4) {
				h[i] = append(h[i], d.To(5))
			}
		}
		if parents, ok := gyo.Parents(h); ok && !jtree.Check(h, parents) {
			t.Error(h, parents)
		}
	}
}
