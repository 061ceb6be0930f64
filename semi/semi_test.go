package semi_test

import (
	"slices"
	"testing"

	"trommel/api"
	"trommel/graph"
	"trommel/rows"
	"trommel/sample"
	"trommel/semi"
)

// v makes a row of numbers, texts, and nil.
var v = sample.Row

func rel(cols []int, l ...[]api.Val) api.Rel { return api.Rel{Cols: cols, Rows: l} }

func same(a, b api.Rel) bool {
	return slices.Equal(a.Cols, b.Cols) && slices.EqualFunc(a.Rows, b.Rows, rows.Same)
}

// P24.1
func TestRight(t *testing.T) {
	for i, c := range []struct {
		r    api.Rel
		want bool
	}{
		{api.Rel{}, true}, {rel(nil, v(), v()), true}, {rel([]int{-1, 4}, v(1, nil)), true}, {rel([]int{1}), true},
		{rel([]int{2, 1}), false}, {rel([]int{1, 1}), false}, {rel([]int{1}, v()), false}, {rel([]int{1}, v(1), v(1, 2)), false}, {rel(nil, v(1)), false},
	} {
		if semi.Right(c.r) != c.want {
			t.Error(i)
		}
	}
}

// P24.1
func TestMatch(t *testing.T) {
	odd := api.Val{Kind: 3}
	for i, c := range []struct {
		a, b []api.Val
		want bool
	}{
		{nil, v(), true}, {v(1, "a"), v(1, "a"), true}, {v(1), v(2), false}, {v(1), v(1, 1), false}, {v(1, 1), v(1), false},
		{v(nil), v(nil), false}, {v(1, nil), v(1, nil), false}, {v(1), v(nil), false}, {v(1), v("1"), false}, {v(odd), v(odd), false},
		{v(api.Val{Kind: 1, S: "x"}), v(0), false}, {v(api.Val{Kind: 2, I: 1}), v(""), false},
	} {
		if semi.Match(c.a, c.b) != c.want || semi.Match(c.b, c.a) != c.want {
			t.Error(i)
		}
	}
}

// P24.1
func TestValues(t *testing.T) {
	r := rel([]int{3, 5, 9})
	if got := semi.Values(r, v(1, 2), []int{5, 9, 4, 3, 5}); !rows.Same(got, v(2, nil, nil, 1, 2)) {
		t.Error(got)
	}
	odd := rel([]int{7, 2, 7}, v(1))
	if got := semi.Values(odd, v(1, 2, 3), []int{7, 2}); !rows.Same(got, v(1, 2)) {
		t.Error("the first one", got)
	}
	if len(semi.Values(r, v(1), nil)) != 0 {
		t.Error("of none")
	}
}

// P24.2
func TestExample(t *testing.T) {
	a := rel([]int{1, 2}, v(1, 5), v(nil, 6), v(1, 5), v(2, nil))
	b := rel([]int{1}, v(1), v(nil), v(1))
	if got := semi.Semijoin(a, b); !same(got, rel([]int{1, 2}, v(1, 5), v(1, 5))) {
		t.Error(got)
	}
	if got := semi.Anti(a, b); !same(got, rel([]int{1, 2}, v(nil, 6), v(2, nil))) {
		t.Error(got)
	}
	if got := semi.Join(a, b); !same(got, rel([]int{1, 2}, v(1, 5), v(1, 5), v(1, 5), v(1, 5))) {
		t.Error(got)
	}
	other := rel([]int{7}, v(nil))
	if got := semi.Semijoin(a, other); !same(got, a) {
		t.Error(got)
	}
	if got := semi.Anti(a, other); !same(got, rel(a.Cols)) {
		t.Error(got)
	}
	if got := semi.Semijoin(a, rel([]int{7})); !same(got, rel(a.Cols)) {
		t.Error(got)
	}
	if got := semi.Anti(a, rel([]int{7})); !same(got, a) {
		t.Error(got)
	}
}

// P24.3
func TestJoin(t *testing.T) {
	a := rel([]int{2, 5}, v("a", 1), v("b", 2), v(nil, 1))
	b := rel([]int{1, 5, 8}, v(10, 1, nil), v(11, 2, "x"), v(12, 1, "y"), v(13, nil, "z"))
	want := rel([]int{1, 2, 5, 8}, v(10, "a", 1, nil), v(12, "a", 1, "y"), v(11, "b", 2, "x"), v(10, nil, 1, nil), v(12, nil, 1, "y"))
	if got := semi.Join(a, b); !same(got, want) {
		t.Error(got)
	}
	if got := semi.All([]api.Rel{a, b}); !same(got, want) {
		t.Error(got)
	}
	cross := semi.Join(rel([]int{1}, v(1), v(2)), rel([]int{0}, v(5), v(6)))
	if !same(cross, rel([]int{0, 1}, v(5, 1), v(6, 1), v(5, 2), v(6, 2))) {
		t.Error(cross)
	}
}

// P24.3
func TestAll(t *testing.T) {
	if got := semi.All(nil); !same(got, rel(nil, v())) {
		t.Error(got)
	}
	a := rel([]int{1}, v(2), v(1), v(2))
	got := semi.All([]api.Rel{a})
	if !same(got, a) {
		t.Error(got)
	}
	got.Cols[0] = 9
	if a.Cols[0] != 1 {
		t.Error("shared")
	}
	if got := semi.All([]api.Rel{a, a}); !same(got, rel([]int{1}, v(2), v(2), v(1), v(2), v(2))) {
		t.Error(got)
	}
	if got := semi.All([]api.Rel{a, {}}); !same(got, rel([]int{1})) {
		t.Error(got)
	}
	unit := rel(nil, v(), v())
	if got := semi.All([]api.Rel{unit, a}); len(got.Rows) != 6 {
		t.Error(got)
	}
}

// P24.4
func TestProject(t *testing.T) {
	odd, other := api.Val{Kind: 3}, api.Val{Kind: 4}
	r := rel([]int{1, 4, 6}, v(1, nil, 3), v(1, nil, 4), v(2, 0, 3), v(1, 0, 3), v(odd, 0, 0), v(other, 0, 0), v(odd, 0, 1))
	for i, c := range []struct {
		cols []int
		want api.Rel
	}{
		{[]int{4, 1, 4, 9}, rel([]int{1, 4}, v(1, nil), v(2, 0), v(1, 0), v(odd, 0), v(other, 0))},
		{[]int{6}, rel([]int{6}, v(3), v(4), v(0), v(1))},
		{nil, rel(nil, v())},
		{[]int{7}, rel(nil, v())},
		{[]int{6, 4, 1}, r},
	} {
		if got := semi.Project(r, c.cols); !same(got, c.want) {
			t.Error(i, got)
		}
	}
	if got := semi.Project(rel([]int{1}), nil); !same(got, api.Rel{}) {
		t.Error(got)
	}
}

// P24.1: what is not right counts as the zero one.
func TestWrong(t *testing.T) {
	bad, good := rel([]int{2, 1}, v(1, 2)), rel([]int{1}, v(1), v(nil))
	if got := semi.Semijoin(bad, good); !same(got, api.Rel{}) {
		t.Error(got)
	}
	if got := semi.Anti(good, bad); !same(got, good) {
		t.Error(got)
	}
	if got := semi.Join(bad, good); !same(got, rel([]int{1})) {
		t.Error(got)
	}
	if got := semi.All([]api.Rel{bad}); !same(got, api.Rel{}) {
		t.Error(got)
	}
	if got := semi.Project(bad, []int{1}); !same(got, api.Rel{}) {
		t.Error(got)
	}
}

// some makes a relation of few vertices and values.
func some(d *sample.Dice) api.Rel {
	r := api.Rel{}
	for c := range 4 {
		if d.To(2) == 0 {
			r.Cols = append(r.Cols, c)
		}
	}
	for range d.To(6) {
		row := []api.Val{}
		for range r.Cols {
			row = append(row, v([]any{1, 2, nil, "a", api.Val{Kind: 3}}[d.To(5)])...)
		}
		r.Rows = append(r.Rows, row)
	}
	return r
}

// P24.2, P24.3, P24.5
func TestAgainstNaive(t *testing.T) {
	for seed := range 500 {
		d := sample.New(seed)
		a, b := some(d), some(d)
		shared := graph.Shared(a.Cols, b.Cols)
		in, out, join := rel(a.Cols), rel(a.Cols), rel(graph.Vertices([][]int{a.Cols, b.Cols}))
		for _, x := range a.Rows {
			met := false
			for _, y := range b.Rows {
				if !semi.Match(semi.Values(a, x, shared), semi.Values(b, y, shared)) {
					continue
				}
				met = true
				row := []api.Val{}
				for _, c := range join.Cols {
					if slices.Contains(a.Cols, c) {
						row = append(row, semi.Values(a, x, []int{c})...)
					} else {
						row = append(row, semi.Values(b, y, []int{c})...)
					}
				}
				join.Rows = append(join.Rows, row)
			}
			if met {
				in.Rows = append(in.Rows, x)
			} else {
				out.Rows = append(out.Rows, x)
			}
		}
		if !same(semi.Semijoin(a, b), in) || !same(semi.Anti(a, b), out) || !same(semi.Join(a, b), join) {
			t.Fatal(a, b)
		}
		for _, x := range in.Rows {
			if rows.Count(semi.Project(semi.Join(a, b), a.Cols).Rows, x) != 1 {
				t.Error("a row of the semijoin is part of one of the join", a, b)
			}
		}
		c := some(d)
		one, two := semi.All([]api.Rel{a, b, c}), semi.All([]api.Rel{c, a, b})
		if !slices.Equal(one.Cols, two.Cols) || !rows.SameBag(one.Rows, two.Rows) {
			t.Error("in whatever order", a, b, c)
		}
	}
}
