package sat_test

import (
	"math"
	"math/big"
	"slices"
	"testing"

	"trommel/api"
	"trommel/sat"
)

func edges() []int {
	return []int{math.MinInt, -1, 0, 1, 2, 3, 7, 64, 1000, 1<<31 - 1, 1 << 31, 1<<31 + 1, 1 << 32, 1<<40 + 3, 1 << 61, 1<<61 + 1, 1<<62 - 1, 1 << 62, 1<<62 + 1, math.MaxInt}
}

func cut(n int) *big.Int {
	if n < 0 {
		return new(big.Int)
	}
	return big.NewInt(int64(min(n, api.MaxSat)))
}

// full: the number, or MaxSat if it is above that.
func full(n *big.Int) int {
	if n.Cmp(big.NewInt(api.MaxSat)) > 0 {
		return api.MaxSat
	}
	return int(n.Int64())
}

// up: a divided by b, rounded up.
func up(a, b *big.Int) *big.Int {
	q, r := new(big.Int).QuoRem(a, b, new(big.Int))
	if r.Sign() > 0 {
		q.Add(q, big.NewInt(1))
	}
	return q
}

// P26.1
func TestCut(t *testing.T) {
	for _, n := range edges() {
		if sat.Cut(n) != full(cut(n)) || sat.Full(n) != (n >= api.MaxSat) {
			t.Error(n, sat.Cut(n), sat.Full(n))
		}
	}
}

// P26.1
func TestAddMul(t *testing.T) {
	if sat.Add() != 0 || sat.Mul() != 1 || sat.Add(-5) != 0 || sat.Mul(-5) != 0 || sat.Mul(math.MaxInt) != api.MaxSat {
		t.Error("of none, and of one")
	}
	if sat.Mul(1<<40, 1<<40, 0) != 0 || sat.Add(1<<61, 1<<62) != 1<<62 {
		t.Error("examples")
	}
	for _, a := range edges() {
		for _, b := range edges() {
			for _, c := range []int{-1, 0, 1, 5, 1 << 61} {
				sum := new(big.Int).Add(cut(a), new(big.Int).Add(cut(b), cut(c)))
				product := new(big.Int).Mul(cut(a), new(big.Int).Mul(cut(b), cut(c)))
				if got := sat.Add(a, b, c); got != full(sum) {
					t.Error("Add", a, b, c, got)
				}
				if got := sat.Mul(a, b, c); got != full(product) {
					t.Error("Mul", a, b, c, got)
				}
			}
		}
	}
}

// P26.2
func TestDiv(t *testing.T) {
	for _, a := range edges() {
		for _, b := range edges() {
			want := 0
			if cut(b).Sign() > 0 {
				want = full(up(cut(a), cut(b)))
			} else if cut(a).Sign() > 0 {
				want = api.MaxSat
			}
			if got := sat.Div(a, b); got != want {
				t.Error(a, b, got)
			}
		}
	}
	for a := range 20 {
		for b := 1; b < 9; b++ {
			if got := sat.Div(a, b); got != int(math.Ceil(float64(a)/float64(b))) {
				t.Error(a, b, got)
			}
		}
	}
}

// P26.2, P26.3
func TestPart(t *testing.T) {
	for _, n := range append(edges(), 10) {
		for _, num := range edges() {
			for _, den := range edges() {
				want := full(cut(n))
				if cut(num).Cmp(cut(den)) < 0 {
					want = full(up(new(big.Int).Mul(cut(n), cut(num)), cut(den)))
				}
				got := sat.Part(n, num, den)
				if got != want || got > sat.Cut(n) {
					t.Error(n, num, den, got)
				}
			}
		}
	}
	if sat.Part(10, 1, 3) != 4 || sat.Part(9, 1, 3) != 3 || sat.Part(10, 3, 3) != 10 || sat.Part(10, 0, 0) != 10 || sat.Part(10, 0, 5) != 0 {
		t.Error("examples")
	}
}

// P26.2
func TestBits(t *testing.T) {
	for n, want := range map[int]int{math.MinInt: 0, -1: 0, 0: 0, 1: 1, 2: 2, 3: 2, 4: 3, 255: 8, 256: 9, 1<<62 - 1: 62, 1 << 62: 63, math.MaxInt: 63} {
		if sat.Bits(n) != want {
			t.Error(n, sat.Bits(n))
		}
	}
}

// P26.3: whatever the order, and however they are parted; never less of more.
func TestOrder(t *testing.T) {
	l := []int{3, 1 << 60, 1 << 61, 7, 1 << 30, 1 << 33, 2}
	for turn := range l {
		in := append(slices.Clone(l[turn:]), l[:turn]...)
		if sat.Add(in...) != sat.Add(l...) || sat.Mul(in...) != sat.Mul(l...) {
			t.Error(in)
		}
		if sat.Add(sat.Add(in[:3]...), sat.Add(in[3:]...)) != sat.Add(l...) || sat.Mul(sat.Mul(in[:3]...), sat.Mul(in[3:]...)) != sat.Mul(l...) {
			t.Error("parted", in)
		}
		more := slices.Clone(in)
		more[0]++
		if sat.Add(more...) < sat.Add(in...) || sat.Mul(more...) < sat.Mul(in...) {
			t.Error("more", in)
		}
	}
}
