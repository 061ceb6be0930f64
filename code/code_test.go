package code_test

import (
	"math"
	"slices"
	"testing"

	"trommel/api"
	"trommel/code"
	"trommel/sample"
)

func numbers() []int {
	out := []int{0, 1, -1, 2, -2, 63, 64, -64, -65, 127, 128, 8191, 8192, -8192, -8193, 1 << 40, -1 << 40, math.MaxInt, math.MinInt, math.MaxInt - 1, math.MinInt + 1}
	for i := range 63 {
		out = append(out, 1<<i, -1<<i, 1<<i-1)
	}
	return out
}

// P39.1
func TestPutInt(t *testing.T) {
	for n, want := range map[int][]byte{
		0: {0}, -1: {1}, 1: {2}, -2: {3}, 63: {126}, -64: {127}, 64: {128, 1}, -65: {129, 1}, 8191: {254, 127}, 8192: {128, 128, 1},
		math.MaxInt: {254, 255, 255, 255, 255, 255, 255, 255, 255, 1}, math.MinInt: {255, 255, 255, 255, 255, 255, 255, 255, 255, 1},
	} {
		if got := code.PutInt(nil, n); !slices.Equal(got, want) {
			t.Error(n, got)
		}
	}
	b := append(make([]byte, 0, 8), 7, 9)
	got := code.PutInt(b, 1)
	if !slices.Equal(got, []byte{7, 9, 2}) || b[:3][2] != 0 {
		t.Error("behind other bytes", got)
	}
	got[0] = 1
	if b[0] != 7 {
		t.Error("shared")
	}
}

// P39.1
func TestGetInt(t *testing.T) {
	for _, n := range numbers() {
		b := append(code.PutInt([]byte{200, 200}, n), 255)
		got, next, ok := code.GetInt(b, 2)
		if got != n || next != len(b)-1 || !ok {
			t.Error(n, got, next, ok)
		}
		for end := range len(b) - 3 {
			if got, next, ok = code.GetInt(b[2:2+end], 0); got != 0 || next != 0 || ok {
				t.Error("ends ahead", n, end)
			}
		}
	}
	full := []byte{255, 255, 255, 255, 255, 255, 255, 255, 255}
	for i, b := range [][]byte{
		nil, {128}, {128, 0}, {255, 128, 0}, {129, 128, 128, 0}, append(full[:9:9], 2), append(full[:9:9], 127), append(full[:9:9], 129, 0), append(full[:9:9], 128, 1), append(full[:9:9], 0), append(full[:9:9], 255, 1), full,
	} {
		if n, next, ok := code.GetInt(b, 0); n != 0 || next != 0 || ok {
			t.Error(i, n, next, ok)
		}
	}
	for _, at := range []int{-1, 2, 3, math.MaxInt, math.MinInt} {
		if n, next, ok := code.GetInt([]byte{1, 1}, at); n != 0 || next != 0 || ok {
			t.Error(at, n, next, ok)
		}
	}
	if n, next, ok := code.GetInt([]byte{128, 128, 2}, 2); n != 1 || next != 3 || !ok {
		t.Error(n, next, ok)
	}
}

// P39.2
func TestInts(t *testing.T) {
	for _, l := range [][]int{nil, {5}, {0, -1, 1 << 50}, numbers()} {
		b := code.PutInts([]byte{9}, l)
		want := code.PutInt([]byte{9}, len(l))
		for _, n := range l {
			want = code.PutInt(want, n)
		}
		if !slices.Equal(b, want) {
			t.Error(l, b)
		}
		got, next, ok := code.GetInts(append(b, 77), 1)
		if !slices.Equal(got, l) || next != len(b) || !ok {
			t.Error(l, got, next, ok)
		}
		for end := 1; end < len(b); end++ {
			if got, next, ok = code.GetInts(b[:end], 1); len(got) != 0 || next != 0 || ok {
				t.Error("ends ahead", end)
			}
		}
	}
	for i, b := range [][]byte{{1}, {3, 0, 0}, {2}, {4, 0}, {4, 0, 128}, {4, 128, 0, 0}, code.PutInt(nil, math.MaxInt), {6, 0, 0}, {128, 0}} {
		if got, next, ok := code.GetInts(b, 0); len(got) != 0 || next != 0 || ok {
			t.Error(i, got, next, ok)
		}
	}
	for _, at := range []int{-1, 2, math.MaxInt, math.MinInt} {
		if got, next, ok := code.GetInts([]byte{0}, at); len(got) != 0 || next != 0 || ok {
			t.Error(at)
		}
	}
	b := append(make([]byte, 0, 64), 1)
	code.PutInts(b, []int{3})
	if b[:2][1] != 0 {
		t.Error("spare room")
	}
}

func full() api.Ask {
	return api.Ask{
		Force: true, Picks: []int{3, -1},
		Opts: api.Opts{Seed: -7, Words: 2, Bits: 3, Buckets: 4, Batch: 5, Budget: 600},
		Stats: []api.Stat{
			{Rows: 9, Cols: []api.ColStat{{Unlike: 1, Nulls: 2, Marks: []int{8, -9}}, {}}}, {Rows: -1},
		},
	}
}

func same(a, b api.Ask) bool {
	cols := func(x, y api.ColStat) bool {
		return x.Unlike == y.Unlike && x.Nulls == y.Nulls && slices.Equal(x.Marks, y.Marks)
	}
	stats := func(x, y api.Stat) bool { return x.Rows == y.Rows && slices.EqualFunc(x.Cols, y.Cols, cols) }
	return a.Force == b.Force && a.Opts == b.Opts && slices.Equal(a.Picks, b.Picks) && slices.EqualFunc(a.Stats, b.Stats, stats)
}

// P39.3
func TestPut(t *testing.T) {
	want := []byte{2, 13, 4, 6, 8, 10, 176, 9, 4, 6, 1, 4, 18, 4, 2, 4, 4, 16, 17, 0, 0, 0, 1, 0}
	if got := code.Put(full()); !slices.Equal(got, want) {
		t.Error(got)
	}
	if got := code.Put(api.Ask{}); !slices.Equal(got, make([]byte, 9)) {
		t.Error(got)
	}
}

// P39.3
func TestGetWrong(t *testing.T) {
	good := code.Put(full())
	wrong := [][]byte{nil, append(slices.Clone(good), 0)}
	for end := range good {
		wrong = append(wrong, good[:end])
	}
	for at, with := range map[int][]byte{0: {1, 3, 4, 200}, 8: {1, 200}, 11: {1, 200}, 13: {1, 200}, 16: {1, 200}, 23: {1, 9, 12}} {
		for _, b := range with {
			bad := slices.Clone(good)
			bad[at] = b
			wrong = append(wrong, bad)
		}
	}
	for i, b := range wrong {
		if got, e := code.Get(b); e != api.ErrArg || !same(got, api.Ask{}) {
			t.Error(i, b, got, e)
		}
	}
}

// P39.4
func TestGetOfPut(t *testing.T) {
	for seed := range 300 {
		d := sample.New(seed)
		l := numbers()
		n := func() int { return l[d.To(len(l))] }
		a := api.Ask{Force: d.To(2) == 0, Opts: api.Opts{Seed: n(), Words: n(), Bits: n(), Buckets: n(), Batch: n(), Budget: n()}}
		for range d.To(4) {
			a.Picks = append(a.Picks, n())
		}
		for range d.To(4) {
			s := api.Stat{Rows: n()}
			for range d.To(3) {
				s.Cols = append(s.Cols, api.ColStat{Unlike: n(), Nulls: n(), Marks: l[:d.To(5)]})
			}
			a.Stats = append(a.Stats, s)
		}
		b := code.Put(a)
		got, e := code.Get(b)
		if e != api.OK || !same(got, a) {
			t.Fatal(a, got, e)
		}
		b[d.To(len(b))] = byte(d.To(256))
		if got, e = code.Get(b); e == api.OK && !slices.Equal(code.Put(got), b) {
			t.Error("one row of bytes", b)
		}
	}
}
