package bloom_test

import (
	"math"
	"math/bits"
	"slices"
	"testing"

	"trommel/api"
	"trommel/bloom"
	"trommel/hash"
)

// numbers holds some numbers that are far apart.
func numbers(n int) []uint64 {
	var out []uint64
	for i := range n {
		out = append(out, hash.Start(i))
	}
	return append(out, 0, 1, math.MaxUint64, 1<<63, 0xffffffff)
}

// want: the words of a filter, from the promise's own words.
func want(words, per int, l []uint64) []uint64 {
	out := make([]uint64, words)
	for _, h := range l {
		for i := 0; i < per; i++ {
			out[(h>>32)%uint64(words)] |= uint64(1) << (h >> uint(6*i) & 63)
		}
	}
	return out
}

// P18.1
func TestNew(t *testing.T) {
	for _, c := range [][4]int{{1, 1, 1, 1}, {0, 0, 1, 1}, {-5, -5, 1, 1}, {4096, 5, 4096, 5}, {4097, 6, 4096, 5}, {7, 3, 7, 3}, {math.MaxInt, math.MaxInt, 4096, 5}, {math.MinInt, math.MinInt, 1, 1}} {
		f := bloom.New(c[0], c[1])
		if len(bloom.Words(f)) != c[2] || bloom.Bits(f) != c[3] || bloom.Ones(f) != 0 {
			t.Error(c, len(bloom.Words(f)), bloom.Bits(f))
		}
	}
}

// P18.1, P18.2: the zero Filter.
func TestZero(t *testing.T) {
	f := bloom.Add(bloom.Filter{}, numbers(5)...)
	if len(bloom.Words(f)) != 0 || bloom.Bits(f) != 0 || bloom.Ones(f) != 0 {
		t.Error(bloom.Words(f))
	}
	for _, h := range numbers(5) {
		if bloom.Has(f, h) {
			t.Error(h)
		}
	}
	if _, e := bloom.Union(f, bloom.New(1, 1)); e != api.ErrArg {
		t.Error(e)
	}
	if u, e := bloom.Union(f, f); e != api.OK || bloom.Bits(u) != 0 || len(bloom.Words(u)) != 0 {
		t.Error(e)
	}
}

// P18.1, P18.2
func TestAdd(t *testing.T) {
	for _, words := range []int{1, 2, 5, 64, 4096} {
		for per := 1; per <= 5; per++ {
			l := numbers(20)
			f := bloom.Add(bloom.New(words, per), l[:3]...)
			before := bloom.Words(f)
			g := bloom.Add(f, l[3:]...)
			if !slices.Equal(bloom.Words(g), want(words, per, l)) || bloom.Bits(g) != per {
				t.Error(words, per)
			}
			if !slices.Equal(bloom.Words(f), before) || !slices.Equal(before, want(words, per, l[:3])) {
				t.Error("a filter stays as it is", words, per)
			}
			n := 0
			for _, w := range bloom.Words(g) {
				n += bits.OnesCount64(w)
			}
			if bloom.Ones(g) != n {
				t.Error(bloom.Ones(g), n)
			}
		}
	}
	f := bloom.Add(bloom.New(3, 2), 5)
	bloom.Words(f)[0] = 1 << 60
	if !slices.Equal(bloom.Words(f), want(3, 2, []uint64{5})) {
		t.Error("shared")
	}
	if !slices.Equal(bloom.Words(bloom.Add(f)), bloom.Words(f)) {
		t.Error("none more")
	}
}

// P18.2
func TestHas(t *testing.T) {
	l := numbers(30)
	f := bloom.Add(bloom.New(4, 3), l[:15]...)
	w := bloom.Words(f)
	some := false
	for _, h := range l {
		one := want(4, 3, []uint64{h})
		all := true
		for i := range w {
			all = all && w[i]&one[i] == one[i]
		}
		if bloom.Has(f, h) != all {
			t.Error(h)
		}
		some = some || !all
	}
	if !some {
		t.Error("none is told apart")
	}
}

// P18.3
func TestUnion(t *testing.T) {
	l := numbers(20)
	a, b := bloom.Add(bloom.New(8, 2), l[:9]...), bloom.Add(bloom.New(8, 2), l[9:]...)
	u, e := bloom.Union(a, b)
	if e != api.OK || !slices.Equal(bloom.Words(u), want(8, 2, l)) || bloom.Bits(u) != 2 {
		t.Error(e)
	}
	if !slices.Equal(bloom.Words(a), want(8, 2, l[:9])) || !slices.Equal(bloom.Words(b), want(8, 2, l[9:])) {
		t.Error("both stay as they are")
	}
	for _, c := range []bloom.Filter{bloom.New(8, 3), bloom.New(7, 2), {}} {
		for _, pair := range [][2]bloom.Filter{{a, c}, {c, a}} {
			u, e := bloom.Union(pair[0], pair[1])
			if e != api.ErrArg || bloom.Bits(u) != 0 || len(bloom.Words(u)) != 0 {
				t.Error(e)
			}
		}
	}
}

// P18.3
func TestSize(t *testing.T) {
	for _, c := range [][3]int{
		{100, 8, 16}, {0, 0, 1}, {-3, 5, 1}, {5, -3, 1}, {1, 1, 1}, {64, 1, 1}, {65, 1, 2}, {128, 1, 2}, {129, 1, 4}, {1, 64, 1}, {13, 5, 2},
		{1 << 18, 1, 4096}, {1<<17 + 1, 1, 4096}, {1 << 17, 1, 2048}, {1 << 20, 1 << 20, 4096}, {math.MaxInt, math.MaxInt, 4096}, {math.MinInt, math.MaxInt, 1}, {1 << 60, 0, 1},
	} {
		if got := bloom.Size(c[0], c[1]); got != c[2] {
			t.Error(c, got)
		}
	}
}

// P18.4
func TestPutIsHad(t *testing.T) {
	l := numbers(200)
	for _, words := range []int{1, 3, 32} {
		up, down := bloom.New(words, 5), bloom.New(words, 5)
		for i, h := range l {
			up, down = bloom.Add(up, h), bloom.Add(down, l[len(l)-1-i])
			for _, put := range l[:i+1] {
				if !bloom.Has(up, put) {
					t.Fatal(put)
				}
			}
		}
		if !slices.Equal(bloom.Words(up), bloom.Words(down)) {
			t.Error("the order plays no part")
		}
		u, _ := bloom.Union(bloom.New(words, 5), up)
		for _, h := range l {
			if !bloom.Has(u, h) {
				t.Error(h)
			}
		}
	}
}
