package hist_test

import (
	"math"
	"slices"
	"testing"

	"trommel/api"
	"trommel/hist"
	"trommel/sample"
	"trommel/val"
)

func same(a, b api.Stat) bool {
	return a.Rows == b.Rows && slices.EqualFunc(a.Cols, b.Cols, func(x, y api.ColStat) bool {
		return x.Unlike == y.Unlike && x.Nulls == y.Nulls && slices.Equal(x.Marks, y.Marks)
	})
}

// P27.1
func TestMarks(t *testing.T) {
	for i, c := range []struct{ l, want []int }{
		{nil, nil},
		{[]int{7}, []int{7, 7, 7, 7, 7, 7, 7, 7, 7}},
		{[]int{5, 1, 3}, []int{1, 1, 1, 1, 3, 3, 3, 3, 5}},
		{[]int{2, 1}, []int{1, 1, 1, 1, 1, 1, 1, 1, 2}},
		{[]int{9, 8, 7, 6, 5, 4, 3, 2, 1}, []int{1, 2, 3, 4, 5, 6, 7, 8, 9}},
		{[]int{0, 1, 2, 3, 4, 5, 6, 7, 8, 9}, []int{0, 1, 2, 3, 4, 5, 6, 7, 9}},
		{[]int{math.MaxInt, math.MinInt, 0, 0}, []int{math.MinInt, math.MinInt, math.MinInt, 0, 0, 0, 0, 0, math.MaxInt}},
	} {
		in := slices.Clone(c.l)
		if got := hist.Marks(in); !slices.Equal(got, c.want) || !slices.Equal(in, c.l) {
			t.Error(i, got)
		}
	}
}

// P27.1
func TestBelow(t *testing.T) {
	marks := []int{1, 1, 1, 1, 3, 3, 3, 3, 5}
	for n, want := range map[int]int{3: 4, 1: 0, 2: 4, 4: 8, 5: 8, 6: 9, math.MinInt: 0, math.MaxInt: 9} {
		if got := hist.Below(marks, n); got != want {
			t.Error(n, got)
		}
	}
	if hist.Below(nil, 3) != 0 || hist.Below([]int{9, 1, 5}, 6) != 2 {
		t.Error("other lists")
	}
}

func table() api.Table {
	row := func(l ...api.Val) []api.Val { return l }
	return api.Table{
		Cols: []api.Column{{Kind: 1}, {Kind: 2}, {Kind: 1}},
		Rows: [][]api.Val{
			row(val.Int(4), val.Text("a"), val.Int(4)), row(val.Null(), val.Text("b")), row(val.Int(4), val.Text("a"), val.Null()), row(val.Int(-1), api.Val{I: 7}), row(),
			row(val.Text("4"), val.Text(""), api.Val{Kind: 1, I: 4, S: "x"}),
		},
	}
}

// P27.2
func TestOf(t *testing.T) {
	want := api.Stat{Rows: 6, Cols: []api.ColStat{
		{Unlike: 3, Nulls: 2, Marks: []int{-1, -1, -1, -1, 4, 4, 4, 4, 4}},
		{Unlike: 3, Nulls: 2},
		{Unlike: 2, Nulls: 4, Marks: []int{4, 4, 4, 4, 4, 4, 4, 4, 4}},
	}}
	if got := hist.Of(table()); !same(got, want) {
		t.Error(got)
	}
	if got := hist.Of(api.Table{}); !same(got, api.Stat{}) {
		t.Error(got)
	}
	wide := api.Table{Cols: make([]api.Column, 20), Rows: [][]api.Val{nil}}
	if got := hist.Of(wide); len(got.Cols) != 20 || got.Cols[19].Nulls != 1 {
		t.Error(got)
	}
}

// P27.3
func TestHeld(t *testing.T) {
	said := api.Stat{Rows: 10, Cols: []api.ColStat{
		{Unlike: 20, Nulls: 3, Marks: []int{5, 4, 3, 2, 1, 0, -1, -2, -3, -100, 7}},
		{Unlike: -1, Nulls: -1, Marks: []int{2, 1}},
		{Unlike: 4, Nulls: 99},
		{Unlike: 4, Nulls: 6},
	}}
	want := api.Stat{Rows: 10, Cols: []api.ColStat{
		{Unlike: 7, Nulls: 3, Marks: []int{-3, -2, -1, 0, 1, 2, 3, 4, 5}}, {Marks: []int{1, 2}}, {Nulls: 10}, {Unlike: 4, Nulls: 6}, {},
	}}
	got := hist.Held(said, 5)
	if !same(got, want) || said.Cols[0].Marks[0] != 5 {
		t.Error(got)
	}
	got.Cols[1].Marks = append(got.Cols[1].Marks[:1], 9)
	if said.Cols[1].Marks[0] != 2 || said.Cols[1].Marks[1] != 1 {
		t.Error("shared")
	}
	for cols, n := range map[int]int{-1: 0, math.MinInt: 0, 0: 0, 2: 2, 16: 16, 17: 16, math.MaxInt: 16} {
		if len(hist.Held(said, cols).Cols) != n {
			t.Error(cols)
		}
	}
	for rows, n := range map[int]int{-5: 0, math.MaxInt: api.MaxSat, 1<<62 + 1: api.MaxSat, 7: 7} {
		one := api.Stat{Rows: rows, Cols: []api.ColStat{{Unlike: math.MaxInt, Nulls: 2}}}
		if got := hist.Held(one, 1); got.Rows != n || got.Cols[0].Nulls != min(2, n) || got.Cols[0].Unlike != max(0, n-2) {
			t.Error(rows, got)
		}
	}
}

// P27.3
func TestRight(t *testing.T) {
	good := func() api.Stat {
		return api.Stat{Rows: 5, Cols: []api.ColStat{{Unlike: 3, Nulls: 2, Marks: []int{1, 1, 4}}, {}}}
	}
	if !hist.Right(good(), 2) || hist.Right(good(), 1) || hist.Right(good(), 3) || !hist.Right(api.Stat{}, 0) || !hist.Right(api.Stat{Cols: []api.ColStat{{Marks: []int{}}}}, 1) {
		t.Error("good ones")
	}
	for i, change := range []func(s *api.Stat){
		func(s *api.Stat) { s.Rows = -1 }, func(s *api.Stat) { s.Rows = 4 }, func(s *api.Stat) { s.Rows = math.MaxInt }, func(s *api.Stat) { s.Cols[0].Unlike = 4 }, func(s *api.Stat) { s.Cols[1].Unlike = -1 },
		func(s *api.Stat) { s.Cols[0].Nulls = 3 }, func(s *api.Stat) { s.Cols[1].Nulls = -1 }, func(s *api.Stat) { s.Cols[1].Nulls = 6 },
		func(s *api.Stat) { s.Cols[0].Marks[0] = 5 }, func(s *api.Stat) { s.Cols[1].Marks = make([]int, 10) }, func(s *api.Stat) { s.Cols = s.Cols[:1] },
	} {
		s := good()
		change(&s)
		if hist.Right(s, 2) {
			t.Error(i)
		}
	}
}

// P27.3
func TestCol(t *testing.T) {
	s := api.Stat{Rows: 3, Cols: []api.ColStat{{}, {Unlike: 9, Nulls: -2, Marks: []int{3, 1}}}}
	got := hist.Col(s, 1)
	if got.Unlike != 9 || got.Nulls != -2 || !slices.Equal(got.Marks, []int{3, 1}) {
		t.Error(got)
	}
	got.Marks[0] = 7
	if s.Cols[1].Marks[0] != 3 {
		t.Error("shared")
	}
	for _, c := range []int{-1, 2, math.MaxInt, math.MinInt} {
		if got := hist.Col(s, c); got.Unlike != 0 || got.Nulls != 0 || got.Marks != nil {
			t.Error(c, got)
		}
	}
}

// P27.4
func TestHeldIsRight(t *testing.T) {
	for seed := range 100 {
		d := sample.New(seed)
		s := api.Stat{Rows: d.To(20) - 3}
		for range d.To(20) {
			s.Cols = append(s.Cols, api.ColStat{Unlike: d.To(30) - 5, Nulls: d.To(30) - 5, Marks: []int{d.To(5), d.To(5), d.To(5)}[:d.To(4)]})
		}
		cols := d.To(20)
		if held := hist.Held(s, cols); !hist.Right(held, cols) && cols <= api.MaxCols {
			t.Error(s, cols)
		}
		for _, table := range sample.Tables(d, 9) {
			if !hist.Right(hist.Of(table), len(table.Cols)) {
				t.Error(table)
			}
		}
	}
}

// P27.4: how many numbers are below one, by how many of the marks are.
func TestMarksTell(t *testing.T) {
	for seed := range 300 {
		d := sample.New(seed)
		l := make([]int, 1+d.To(40))
		for i := range l {
			l[i] = d.To(12)
		}
		marks := hist.Marks(l)
		for n := -1; n < 14; n++ {
			k, below := hist.Below(marks, n), 0
			for _, x := range l {
				if x < n {
					below++
				}
			}
			switch {
			case k == 0 && below != 0, k == api.MaxMarks && below != len(l):
				t.Error(l, n)
			case k > 0 && k < api.MaxMarks && (below <= (k-1)*(len(l)-1)/8 || below > k*(len(l)-1)/8):
				t.Error(l, n, k, below)
			}
		}
	}
}
