package reduce_test

import (
	"slices"
	"testing"

	"trommel/api"
	"trommel/gyo"
	"trommel/jtree"
	"trommel/reduce"
	"trommel/rows"
	"trommel/sample"
	"trommel/semi"
)

// v makes a row of numbers, texts, and nil.
var v = sample.Row

func rel(cols []int, l ...[]api.Val) api.Rel { return api.Rel{Cols: cols, Rows: l} }

func same(a, b api.Rel) bool {
	return slices.Equal(a.Cols, b.Cols) && slices.EqualFunc(a.Rows, b.Rows, rows.Same)
}

func sameAll(a, b []api.Rel) bool { return slices.EqualFunc(a, b, same) }

// P25.1
func TestProgram(t *testing.T) {
	type half = api.Half
	for i, c := range []struct {
		parents  []int
		up, down []half
	}{
		{[]int{-1, 0, 1}, []half{{Target: 1, By: 2}, {Target: 0, By: 1}}, []half{{Target: 1, By: 0}, {Target: 2, By: 1}}},
		{[]int{2, 2, -1, 0}, []half{{Target: 0, By: 3}, {Target: 2, By: 1}, {Target: 2, By: 0}}, []half{{Target: 0, By: 2}, {Target: 1, By: 2}, {Target: 3, By: 0}}},
		{[]int{-1}, nil, nil}, {nil, nil, nil}, {[]int{-1, -1}, nil, nil}, {[]int{1, 0}, nil, nil}, {[]int{-1, 7}, nil, nil},
	} {
		if got := reduce.Up(c.parents); !slices.Equal(got, c.up) {
			t.Error(i, got)
		}
		if got := reduce.Down(c.parents); !slices.Equal(got, c.down) {
			t.Error(i, got)
		}
		if got := reduce.Program(c.parents); !slices.Equal(got, append(slices.Clone(c.up), c.down...)) {
			t.Error(i, got)
		}
	}
}

// chain: (1 2), (2 3), (3 4), of which few rows hang together.
func chain() []api.Rel {
	return []api.Rel{
		rel([]int{1, 2}, v(1, 10), v(2, 20), v(3, nil), v(4, 10)),
		rel([]int{2, 3}, v(10, 100), v(20, 200), v(30, 300), v(10, 100)),
		rel([]int{3, 4}, v(100, nil), v(300, 7)),
	}
}

// P25.2
func TestPlay(t *testing.T) {
	in := chain()
	type half = api.Half
	got := reduce.Play(in, []half{{Target: 1, By: 2}, {Target: 0, By: 1}, {Target: 2, By: 0}, {Target: 1, By: 0}})
	want := []api.Rel{
		rel([]int{1, 2}, v(1, 10), v(4, 10)),
		rel([]int{2, 3}, v(10, 100), v(10, 100)),
		in[2],
	}
	if !sameAll(got, want) {
		t.Error(got)
	}
	if !sameAll(in, chain()) {
		t.Error("what was handed in is another one")
	}
	got[2].Rows[0], got[2].Cols[0] = nil, 99
	if !sameAll(in, chain()) {
		t.Error("shared")
	}
	odd := []half{{Target: 0, By: 0}, {Target: -1, By: 0}, {Target: 0, By: -1}, {Target: 3, By: 0}, {Target: 0, By: 3}, {Target: 1 << 40, By: -1 << 63}}
	if got := reduce.Play(in, odd); !sameAll(got, in) {
		t.Error(got)
	}
	bad := []api.Rel{rel([]int{2, 1}, v(1, 2)), rel([]int{1}, v(1))}
	if got := reduce.Play(bad, odd); !sameAll(got, bad) {
		t.Error(got)
	}
	if got := reduce.Play(bad, []half{{Target: 1, By: 0}, {Target: 0, By: 1}}); !sameAll(got, []api.Rel{{}, rel([]int{1})}) {
		t.Error(got)
	}
	if len(reduce.Play(nil, odd)) != 0 {
		t.Error("of none")
	}
}

// full is Full, from the promise's own words.
func full(rels []api.Rel, i int) api.Rel {
	out := api.Rel{Cols: rels[i].Cols}
	for _, r := range rels[i].Rows {
		one := slices.Clone(rels)
		one[i] = rel(rels[i].Cols, r)
		if len(semi.All(one).Rows) > 0 {
			out.Rows = append(out.Rows, r)
		}
	}
	return out
}

// P25.3
func TestFull(t *testing.T) {
	l := chain()
	for i, want := range []api.Rel{rel([]int{1, 2}, v(1, 10), v(4, 10)), rel([]int{2, 3}, v(10, 100), v(10, 100)), rel([]int{3, 4}, v(100, nil))} {
		if got := reduce.Full(l, i); !same(got, want) || !same(got, full(l, i)) {
			t.Error(i, got)
		}
	}
	for _, i := range []int{-1, 3, 1 << 40} {
		if got := reduce.Full(l, i); !same(got, api.Rel{}) {
			t.Error(i, got)
		}
	}
	bad := append(chain(), rel([]int{5}, v()))
	if got := reduce.Full(bad, 3); !same(got, api.Rel{}) {
		t.Error(got)
	}
	if got := reduce.Full(bad, 0); !same(got, rel([]int{1, 2})) {
		t.Error(got)
	}
	alone := []api.Rel{rel([]int{1}, v(nil), v(2), v(nil))}
	if got := reduce.Full(alone, 0); !same(got, alone[0]) {
		t.Error(got)
	}
}

// P25.3
func TestReduced(t *testing.T) {
	for i, c := range []struct {
		l    []api.Rel
		want bool
	}{
		{nil, true}, {chain(), false}, {reduce.Play(chain(), reduce.Program([]int{-1, 0, 1})), true}, {reduce.Play(chain(), reduce.Up([]int{-1, 0, 1})), false},
		{[]api.Rel{rel([]int{1}), rel([]int{2}, v(1))}, false}, {[]api.Rel{rel([]int{1}), rel([]int{2})}, true},
		{[]api.Rel{rel([]int{2, 1})}, false}, {[]api.Rel{rel([]int{1}, v(nil))}, true},
	} {
		if reduce.Reduced(c.l) != c.want {
			t.Error(i)
		}
	}
}

// P25.4
func TestSizes(t *testing.T) {
	l := chain()
	for i, c := range []struct {
		parents, want []int
	}{
		{[]int{-1, 0, 1}, []int{4, 5, 4}}, {[]int{1, 2, -1}, []int{2, 3, 4}}, {[]int{2, 2, -1}, []int{2, 8, 4}}, {[]int{-1}, []int{4}}, {[]int{-1, 0, 1, 0}, []int{4, 5, 0, 0}}, {nil, nil}, {[]int{0}, nil},
	} {
		if got := reduce.Sizes(l, c.parents); !slices.Equal(got, c.want) {
			t.Error(i, got)
		}
	}
}

// P25.4
func TestEval(t *testing.T) {
	l := chain()
	want := rel([]int{1, 2, 3, 4}, v(1, 10, 100, nil), v(1, 10, 100, nil), v(4, 10, 100, nil), v(4, 10, 100, nil))
	if got := reduce.Eval(l, []int{-1, 0, 1}); !same(got, want) {
		t.Error(got)
	}
	order := rel([]int{1, 2, 3, 4}, v(1, 10, 100, nil), v(4, 10, 100, nil), v(1, 10, 100, nil), v(4, 10, 100, nil))
	if got := reduce.Eval(l, []int{1, 2, -1}); !same(got, order) {
		t.Error(got)
	}
	if got := reduce.Eval(l, []int{0}); !same(got, rel(nil, v())) {
		t.Error(got)
	}
	if got := reduce.Eval(l, []int{-1}); !same(got, l[0]) {
		t.Error(got)
	}
}

// some makes relations of few vertices and values.
func some(d *sample.Dice) []api.Rel {
	out := make([]api.Rel, 1+d.To(4))
	for i := range out {
		for c := range 4 {
			if d.To(2) == 0 {
				out[i].Cols = append(out[i].Cols, c)
			}
		}
		for range d.To(7) {
			row := []api.Val{}
			for range out[i].Cols {
				row = append(row, v([]any{1, 2, 2, nil}[d.To(4)])...)
			}
			out[i].Rows = append(out[i].Rows, row)
		}
	}
	return out
}

// P25.3 to P25.5, and G4
func TestAnyTree(t *testing.T) {
	trees := 0
	for seed := range 600 {
		d := sample.New(seed)
		rels := some(d)
		h := [][]int{}
		for _, r := range rels {
			h = append(h, r.Cols)
		}
		parents := []int{-1}
		for i := 1; i < len(rels); i++ {
			parents = append(parents, d.To(i))
		}
		if l, ok := gyo.Parents(h); ok && d.To(3) > 0 {
			parents = jtree.Rooted(l, d.To(len(l)))
		}
		all := semi.All(rels)
		left := reduce.Play(rels, reduce.Program(parents))
		for i := range rels {
			f := reduce.Full(rels, i)
			if !same(f, full(rels, i)) {
				t.Fatal("Full", rels, i)
			}
			for _, r := range f.Rows {
				if rows.Count(left[i].Rows, r) != rows.Count(rels[i].Rows, r) {
					t.Error("a row that takes part is gone", rels, r)
				}
			}
			if jtree.Check(h, parents) && !same(left[i], f) {
				t.Error("Play leaves just what takes part", rels)
			}
		}
		sizes := reduce.Sizes(left, parents)
		if jtree.Check(h, parents) {
			trees++
			if !reduce.Reduced(left) || !slices.IsSorted(sizes) || sizes[len(sizes)-1] != len(all.Rows) {
				t.Error("Sizes", sizes, len(all.Rows))
			}
		}
		got := reduce.Eval(rels, parents)
		if !slices.Equal(got.Cols, all.Cols) || !rows.SameBag(got.Rows, all.Rows) {
			t.Error("Eval", rels)
		}
	}
	if trees < 100 {
		t.Error(trees)
	}
}
