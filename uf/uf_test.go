package uf_test

import (
	"slices"
	"testing"

	"trommel/uf"
)

func same(a, b [][]int) bool { return slices.EqualFunc(a, b, slices.Equal) }

// P6.1
func TestNew(t *testing.T) {
	for n, want := range map[int]int{-1 << 63: 0, -1: 0, 0: 0, 1: 1, 5: 5, 1 << 16: 1 << 16, 1<<16 + 1: 1 << 16, 1 << 60: 1 << 16} {
		c := uf.New(n)
		if c.Len() != want || c.Count() != want || len(c.All()) != want {
			t.Error(n, c.Len(), c.Count())
		}
		if c.Find(want) != -1 || want > 0 && c.Find(want-1) != want-1 {
			t.Error(n, c.Find(want))
		}
	}
}

// P6.1, P6.2
func TestExample(t *testing.T) {
	c := uf.New(4)
	if !c.Join(3, 1) || c.Join(1, 3) || c.Join(3, 3) {
		t.Error("Join")
	}
	if c.Find(3) != 1 || c.Find(1) != 1 || c.Find(0) != 0 || c.Find(2) != 2 {
		t.Error("Find")
	}
	if !same(c.All(), [][]int{{0}, {1, 3}, {2}}) || c.Count() != 3 || c.Len() != 4 {
		t.Error(c.All())
	}
	for a, want := range []int{0, 1, 2, 1} {
		if c.Number(a) != want {
			t.Error(a, c.Number(a))
		}
	}
	l := c.All()
	l[0] = append(l[0][:0], 7)
	l[1][0] = 9
	if !same(c.All(), [][]int{{0}, {1, 3}, {2}}) {
		t.Error("shared")
	}
}

// P6.1, P6.2: wrong numbers.
func TestNoSuchNumber(t *testing.T) {
	c := uf.New(3)
	for _, a := range []int{-1, 3, 1 << 40, -1 << 63} {
		if c.Find(a) != -1 || c.Number(a) != -1 || c.Same(a, a) || c.Same(a, 0) || c.Same(0, a) || c.Join(a, 0) || c.Join(0, a) || c.Join(a, a) {
			t.Error(a)
		}
	}
	if c.Count() != 3 {
		t.Error(c.Count())
	}
}

// P6.2
func TestNil(t *testing.T) {
	var c *uf.Classes
	if c.Join(0, 1) || c.Same(0, 0) || c.Find(0) != -1 || c.Number(0) != -1 || c.Len() != 0 || c.Count() != 0 || len(c.All()) != 0 {
		t.Error("nil")
	}
	z := &uf.Classes{}
	z.Join(0, 1)
	z.Find(0)
	z.All()
}

// naive keeps the class of each number by its least one.
type naive []int

func (l naive) join(a, b int) bool {
	least, most := min(l[a], l[b]), max(l[a], l[b])
	for i := range l {
		if l[i] == most {
			l[i] = least
		}
	}
	return least != most
}

func (l naive) all() [][]int {
	out := [][]int{}
	for i := range l {
		if l[i] != i {
			continue
		}
		class := []int{}
		for k := range l {
			if l[k] == i {
				class = append(class, k)
			}
		}
		out = append(out, class)
	}
	return out
}

// P6.1 to P6.3
func TestAgainstNaive(t *testing.T) {
	const n = 23
	c, l := uf.New(n), naive(make([]int, n))
	for i := range l {
		l[i] = i
	}
	x := uint32(1)
	for range 40 {
		x = x*1664525 + 1013904223
		a, b := int(x>>8)%n, int(x>>20)%n
		if c.Join(a, b) != l.join(a, b) {
			t.Error("Join", a, b)
		}
		all := l.all()
		if !same(c.All(), all) || c.Count() != len(all) {
			t.Fatal(c.All(), all)
		}
		for i := range n {
			if c.Find(i) != l[i] || !slices.Contains(all[c.Number(i)], i) {
				t.Error(i, c.Find(i), c.Number(i))
			}
			for k := range n {
				if c.Same(i, k) != (l[i] == l[k]) {
					t.Error(i, k)
				}
			}
		}
	}
}

// P6.3: whatever the order.
func TestOrder(t *testing.T) {
	pairs := [][2]int{{5, 2}, {2, 7}, {1, 4}, {4, 0}, {9, 8}, {3, 9}}
	want := [][]int{{0, 1, 4}, {2, 5, 7}, {3, 8, 9}, {6}}
	for turn := range pairs {
		c := uf.New(10)
		for i := range pairs {
			p := pairs[(turn+i*5)%len(pairs)]
			if i%2 == 0 {
				p[0], p[1] = p[1], p[0]
			}
			if !c.Join(p[0], p[1]) {
				t.Error("two classes")
			}
		}
		if !same(c.All(), want) || c.Count() != 4 {
			t.Error(c.All())
		}
	}
}
