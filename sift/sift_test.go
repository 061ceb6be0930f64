package sift_test

import (
	"testing"

	"trommel/api"
	"trommel/bloom"
	"trommel/hash"
	"trommel/rows"
	"trommel/sift"
	"trommel/span"
	"trommel/val"
)

func key(l ...int) []api.Val {
	out := []api.Val{}
	for _, n := range l {
		out = append(out, val.Int(n))
	}
	return out
}

func null(l ...int) []api.Val { return append(key(l...), val.Null()) }

// P20.1
func TestKey(t *testing.T) {
	r := []api.Val{val.Int(5), val.Text("a")}
	if got := sift.Key(r, []int{1, 0, -1, 2, 1}); !rows.Same(got, []api.Val{val.Text("a"), val.Int(5), {}, {}, val.Text("a")}) {
		t.Error(got)
	}
	if len(sift.Key(r, nil)) != 0 {
		t.Error("of no places")
	}
}

// P20.1
func TestWhole(t *testing.T) {
	for i, c := range []struct {
		key  []api.Val
		want bool
	}{
		{nil, true}, {key(1, 2), true}, {null(), false}, {append(null(1), val.Int(2)), false}, {[]api.Val{{I: 3}}, false}, {[]api.Val{{Kind: 3}}, true},
	} {
		if sift.Whole(c.key) != c.want {
			t.Error(i)
		}
	}
}

// model is a sift by its own promises.
type model struct {
	seed  int
	words int
	bits  int
	keys  [][]api.Val
}

func (m model) filter() bloom.Filter {
	f := bloom.New(m.words, m.bits)
	for _, k := range m.keys {
		if sift.Whole(k) {
			f = bloom.Add(f, hash.Row(m.seed, k))
		}
	}
	return f
}

func (m model) passes(k []api.Val) bool {
	if !sift.Whole(k) || !bloom.Has(m.filter(), hash.Row(m.seed, k)) {
		return false
	}
	for i := range k {
		var s span.Span
		for _, put := range m.keys {
			if sift.Whole(put) && i < len(put) {
				s = span.Add(s, put[i])
			}
		}
		if !span.Has(s, k[i]) {
			return false
		}
	}
	return true
}

func asked() [][]api.Val {
	out := [][]api.Val{nil, {val.Text("b")}, {val.Text("a"), val.Int(4)}, null(), null(4), {{Kind: 3}}, key(1, 2, 3), key(4, 4, 4)}
	for i := -3; i < 30; i++ {
		out = append(out, key(i), key(i, i), key(3, i), key(i, 4))
	}
	return out
}

func check(t *testing.T, what any, s sift.Sift, m model) {
	t.Helper()
	n := 0
	for _, k := range m.keys {
		if sift.Whole(k) {
			n++
		}
	}
	if sift.Count(s) != n || sift.Ones(s) != bloom.Ones(m.filter()) {
		t.Error(what, sift.Count(s), sift.Ones(s))
	}
	for _, k := range asked() {
		if sift.Passes(s, k) != m.passes(k) {
			t.Error(what, k, sift.Passes(s, k))
		}
	}
}

func put() [][]api.Val {
	return [][]api.Val{key(4, 9), key(20, 4), null(7), key(3), {val.Text("b"), val.Int(5)}, key(6, 6), key(25, 1), null(), key(11), key(3), nil}
}

// P20.2, P20.3
func TestAgainstModel(t *testing.T) {
	for _, c := range []model{{seed: 1, words: 1, bits: 1}, {seed: 1, words: 2, bits: 2}, {seed: -9, words: 64, bits: 3}, {seed: 0, words: 0, bits: 99}, {seed: 5, words: 1 << 20, bits: -1}} {
		s := sift.New(c.seed, c.words, c.bits)
		check(t, "new", s, c)
		l := put()
		for i := range l {
			old, before := s, c
			s = sift.Add(s, l[i])
			c.keys = l[:i+1]
			check(t, i, s, c)
			check(t, "as it was", old, before)
		}
		at := sift.Add(sift.New(c.seed, c.words, c.bits), l...)
		check(t, "at once", at, c)
	}
}

// P20.2
func TestAddKept(t *testing.T) {
	k := key(1, 2)
	s := sift.Add(sift.New(1, 1, 1), k)
	a, b := sift.Add(s, key(9, 9)), sift.Add(s, key(5, 5))
	k[0] = val.Int(100)
	check(t, "first", a, model{1, 1, 1, [][]api.Val{key(1, 2), key(9, 9)}})
	check(t, "second", b, model{1, 1, 1, [][]api.Val{key(1, 2), key(5, 5)}})
}

// P20.2, P20.3: the zero Sift.
func TestZero(t *testing.T) {
	s := sift.Add(sift.Sift{}, key(1), nil)
	if sift.Count(s) != 0 || sift.Ones(s) != 0 {
		t.Error(sift.Count(s))
	}
	for _, k := range asked() {
		if sift.Passes(s, k) {
			t.Error(k)
		}
	}
	if _, e := sift.Union(s, sift.New(0, 1, 1)); e != api.ErrArg {
		t.Error(e)
	}
}

// P20.3, P20.4
func TestUnion(t *testing.T) {
	l := put()
	for at := range len(l) + 1 {
		a, b := sift.Add(sift.New(3, 4, 2), l[:at]...), sift.Add(sift.New(3, 4, 2), l[at:]...)
		u, e := sift.Union(a, b)
		if e != api.OK {
			t.Fatal(e)
		}
		m := model{3, 4, 2, l}
		check(t, at, u, m)
		u, _ = sift.Union(b, a)
		check(t, at, u, m)
		m.keys = l[:at]
		check(t, "as it was", a, m)
	}
	a := sift.Add(sift.New(3, 4, 2), l...)
	for i, b := range []sift.Sift{sift.New(4, 4, 2), sift.New(3, 5, 2), sift.New(3, 4, 3), {}} {
		u, e := sift.Union(a, b)
		if e != api.ErrArg || sift.Count(u) != 0 || sift.Ones(u) != 0 || sift.Passes(u, l[0]) {
			t.Error(i, e)
		}
	}
}

// P20.4
func TestPutPasses(t *testing.T) {
	s := sift.New(8, 2, 5)
	for i := range 60 {
		s = sift.Add(s, key(i*7%60, i), null(i))
		for k := range i + 1 {
			if !sift.Passes(s, key(k*7%60, k)) || sift.Passes(s, null(k)) {
				t.Fatal(i, k)
			}
		}
	}
}
