package frac_test

import (
	"math"
	"math/big"
	"slices"
	"testing"

	"trommel/api"
	"trommel/frac"
	"trommel/sample"
)

var negZero = math.Copysign(0, -1)

// bit: the same, bit by bit?
func bit(a, b float64) bool { return math.Float64bits(a) == math.Float64bits(b) }

// rising holds floats from the least one on.
func rising() []float64 {
	return []float64{
		math.Inf(-1), -math.MaxFloat64, -1.5, -1, -0.25, -math.SmallestNonzeroFloat64, negZero, 0, math.SmallestNonzeroFloat64, 1e-300, 0.1, 1.0 / 3, 0.5,
		math.Nextafter(1, 0), 1, math.Nextafter(1, 2), 2, 1e300, math.MaxFloat64, math.Inf(1),
	}
}

// P28.1
func TestClean(t *testing.T) {
	for _, f := range rising() {
		want := f
		if f > 1 {
			want = 1
		}
		if f <= 0 {
			want = 0
		}
		if got := frac.Clean(f); !bit(got, want) || !bit(frac.Clean(got), got) {
			t.Error(f, got)
		}
	}
	if !bit(frac.Clean(math.NaN()), 1) || !bit(frac.Clean(-math.NaN()), 1) {
		t.Error("NaN")
	}
}

// P28.1
func TestOf(t *testing.T) {
	for _, c := range []struct {
		a, b int
		want float64
	}{
		{0, 0, 1}, {1, 0, 1}, {-1, 0, 0}, {0, -3, 0}, {0, 5, 0}, {1, 3, 1.0 / 3}, {-1, -3, 1.0 / 3}, {1, -3, 0}, {3, 2, 1}, {5, 5, 1}, {2, 7, 2.0 / 7},
		{1, math.MaxInt, 1 / float64(1<<63)}, {math.MaxInt - 1, math.MaxInt, 1}, {1 << 60, 3 << 60, 1.0 / 3}, {1<<53 + 1, 1 << 54, 0.5},
	} {
		if got := frac.Of(c.a, c.b); !bit(got, c.want) {
			t.Error(c.a, c.b, got)
		}
	}
}

// exact rounds what is reckoned of two floats once, to the nearest one.
func exact(op func(z, x, y *big.Float) *big.Float, a, b float64) float64 {
	f, _ := op(new(big.Float).SetPrec(3000), big.NewFloat(a), big.NewFloat(b)).Float64()
	return f
}

// P28.2, P28.5
func TestNotAndOr(t *testing.T) {
	for _, a := range rising() {
		x := frac.Clean(a)
		if got := frac.Not(a); !bit(got, 1-x) {
			t.Error("Not", a, got)
		}
		for _, b := range rising() {
			y := frac.Clean(b)
			product := exact((*big.Float).Mul, x, y)
			if got := frac.And(a, b); !bit(got, product) || got > x || got > y {
				t.Error("And", a, b, got)
			}
			sum := exact((*big.Float).Add, x, y)
			want := frac.Clean(exact((*big.Float).Sub, sum, product))
			if got := frac.Or(a, b); !bit(got, want) {
				t.Error("Or", a, b, got, want)
			}
			for _, c := range []float64{0.1, 0.7, 1.0 / 3} {
				if got := frac.And(a, b, c); !bit(got, exact((*big.Float).Mul, product, c)) {
					t.Error("And", a, b, c, got)
				}
			}
		}
	}
	if !bit(frac.And(), 1) || !bit(frac.And(math.NaN(), 0.5), 0.5) || !bit(frac.Not(math.NaN()), 0) || !bit(frac.Not(negZero), 1) || !bit(frac.Or(math.NaN(), 0), 1) {
		t.Error("of none, and NaN")
	}
}

// P28.3, P28.5
func TestScale(t *testing.T) {
	for _, c := range []struct {
		n    int
		f    float64
		want int
	}{
		{10, 0.25, 3}, {10, 0, 0}, {10, negZero, 0}, {10, 1, 10}, {10, 2, 10}, {10, math.NaN(), 10}, {10, -1, 0}, {10, 0.5, 5}, {10, 1e-300, 1}, {0, 0.5, 0}, {-5, 0.5, 0}, {math.MinInt, 1, 0},
		{3, 1.0 / 3, 1}, {10, 0.1, 1}, {30, 0.1, 3}, {1 << 62, 1, 1 << 62}, {math.MaxInt, 1, 1 << 62}, {1 << 62, 0.5, 1 << 61},
		{1<<53 + 1, 1, 1 << 53}, {1<<53 + 3, 1, 1<<53 + 3}, {1<<62 - 1, 1, 1<<62 - 1}, {1<<62 - 1, math.Nextafter(1, 0), 1<<62 - 512},
	} {
		if got := frac.Scale(c.n, c.f); got != c.want {
			t.Error(c.n, c.f, got)
		}
	}
	for _, n := range []int{0, 1, 7, 1000, 1<<53 + 3, 1<<62 - 1} {
		last := 0
		for _, f := range rising() {
			got := frac.Scale(n, f)
			if got < last || got > n {
				t.Error(n, f, got)
			}
			last = got
		}
	}
	for seed := range 200 {
		d := sample.New(seed)
		n, f := d.To(1<<40), float64(d.To(1000))/1000
		if a, b := frac.Scale(n, f), frac.Scale(n+1+d.To(9), f); a > b || a > n {
			t.Error(n, f, a, b)
		}
	}
}

// P28.4, P28.5
func TestKey(t *testing.T) {
	last := uint64(0)
	for _, f := range rising() {
		k := frac.Key(f)
		if k <= last {
			t.Error(f, k)
		}
		last = k
	}
	for f, want := range map[float64]uint64{1: 0xbff0000000000000, -1: 0x400fffffffffffff, math.Inf(1): 0xfff0000000000000, math.Inf(-1): 0x000fffffffffffff} {
		if got := frac.Key(f); got != want {
			t.Errorf("%v %x", f, got)
		}
	}
	if frac.Key(0) != 1<<63 || frac.Key(negZero) != 1<<63-1 {
		t.Error("-0 lies just below +0")
	}
	for _, bits := range []uint64{0x7ff8000000000001, 0xfff8000000000000, 0x7ff0000000000001} {
		if frac.Key(math.Float64frombits(bits)) != math.MaxUint64 {
			t.Error("NaN")
		}
	}
}

// P28.4
func TestLeast(t *testing.T) {
	for i, c := range []struct {
		l    []float64
		want float64
	}{
		{nil, 1}, {[]float64{5}, 1}, {[]float64{math.NaN()}, 1}, {[]float64{0.5, 0.25, 0.75}, 0.25}, {[]float64{0.5, -3}, 0}, {[]float64{negZero, 0.5}, 0}, {[]float64{math.NaN(), 0.5}, 0.5}, {[]float64{math.Inf(-1), math.Inf(1)}, 0},
	} {
		if got := frac.Least(c.l...); !bit(got, c.want) {
			t.Error(i, got)
		}
		slices.Reverse(c.l)
		if got := frac.Least(c.l...); !bit(got, c.want) {
			t.Error(i, got)
		}
	}
}

// P28.5
func TestShares(t *testing.T) {
	for _, a := range []int{math.MinInt, -1, 0, 1, 5, api.MaxSat, math.MaxInt} {
		for _, b := range []int{math.MinInt, -1, 0, 1, 5, api.MaxSat, math.MaxInt} {
			f := frac.Of(a, b)
			if !(f >= 0 && f <= 1) || math.Signbit(f) || !bit(frac.Clean(f), f) {
				t.Error(a, b, f)
			}
		}
	}
}
