package arith_test

import (
	"math"
	"math/big"
	"testing"

	"trommel/api"
	"trommel/arith"
	"trommel/val"
)

func edges() []int {
	return []int{
		0, 1, -1, 2, -2, 3, 7, -10, 1 << 31, -1 << 31, 1<<31 - 1, 3037000499, 3037000500, -3037000500, 1 << 32,
		1 << 62, -1 << 62, 1<<62 - 1, math.MaxInt, math.MinInt, math.MaxInt - 1, math.MinInt + 1,
	}
}

func check(t *testing.T, what string, a, b int, want *big.Int, n int, ok bool) {
	t.Helper()
	if ok != want.IsInt64() || ok && int64(n) != want.Int64() || !ok && n != 0 {
		t.Error(what, a, b, n, ok)
	}
}

// P3.1
func TestNumbers(t *testing.T) {
	for _, a := range edges() {
		for _, b := range edges() {
			x, y := big.NewInt(int64(a)), big.NewInt(int64(b))
			n, ok := arith.Add(a, b)
			check(t, "add", a, b, new(big.Int).Add(x, y), n, ok)
			n, ok = arith.Sub(a, b)
			check(t, "sub", a, b, new(big.Int).Sub(x, y), n, ok)
			n, ok = arith.Mul(a, b)
			check(t, "mul", a, b, new(big.Int).Mul(x, y), n, ok)
		}
	}
}

// P3.2
func TestDo(t *testing.T) {
	null, most := val.Null(), val.Int(math.MaxInt)
	for _, c := range []struct {
		op   int
		a, b api.Val
		v    api.Val
		e    api.Errno
	}{
		{api.OpAdd, val.Int(2), val.Int(3), val.Int(5), api.OK},
		{api.OpSub, val.Int(2), val.Int(3), val.Int(-1), api.OK},
		{api.OpMul, val.Int(2), val.Int(-3), val.Int(-6), api.OK},
		{api.OpAdd, most, val.Int(1), null, api.ErrOver},
		{api.OpSub, val.Int(math.MinInt), val.Int(1), null, api.ErrOver},
		{api.OpMul, most, val.Int(2), null, api.ErrOver},
		{api.OpAdd, null, val.Int(1), null, api.OK},
		{api.OpMul, most, null, null, api.OK},
		{api.OpSub, null, null, null, api.OK},
		{api.OpAdd, api.Val{I: 5, S: "x"}, val.Int(1), null, api.OK},
		{api.OpAdd, api.Val{Kind: 1, I: 5, S: "x"}, val.Int(1), val.Int(6), api.OK},
		{api.OpAdd, val.Text("1"), val.Int(1), null, api.ErrType},
		{api.OpAdd, val.Int(1), val.Text("1"), null, api.ErrType},
		{api.OpAdd, null, val.Text("1"), null, api.ErrType},
		{api.OpAdd, val.Text("1"), null, null, api.ErrType},
		{api.OpAdd, api.Val{Kind: 3}, null, null, api.ErrType},
		{api.OpEq, val.Int(1), val.Int(1), null, api.ErrType},
		{api.OpGe, null, null, null, api.ErrType},
		{api.OpAnd, most, most, null, api.ErrType},
		{0, null, val.Int(1), null, api.ErrType},
	} {
		v, e := arith.Do(c.op, c.a, c.b)
		if v != c.v || e != c.e {
			t.Error(c.op, c.a, c.b, v, e)
		}
	}
}

// P3.3
func TestSum(t *testing.T) {
	s := arith.Plus(arith.Sum{}, -1)
	if s != (arith.Sum{High: math.MaxUint64, Low: math.MaxUint64, N: 1}) {
		t.Error(s)
	}
	s = arith.Plus(s, 3)
	if s != (arith.Sum{Low: 2, N: 2}) {
		t.Error(s)
	}
	s = arith.Plus(arith.Sum{Low: math.MaxUint64, N: 4}, 1)
	if s != (arith.Sum{High: 1, N: 5}) {
		t.Error(s)
	}
	s = arith.Plus(arith.Sum{High: math.MaxUint64 >> 1, Low: math.MaxUint64}, 1)
	if s != (arith.Sum{High: 1 << 63, N: 1}) {
		t.Error(s)
	}
}

// P3.3
func TestJoin(t *testing.T) {
	a := arith.Sum{High: math.MaxUint64, Low: math.MaxUint64, N: 3}
	b := arith.Sum{High: 5, Low: 1, N: 4}
	if s := arith.Join(a, b); s != (arith.Sum{High: 5, N: 7}) {
		t.Error(s)
	}
	if s := arith.Join(arith.Sum{}, b); s != b {
		t.Error(s)
	}
}

// P3.3
func TestTotal(t *testing.T) {
	for _, c := range []struct {
		s arith.Sum
		n int
		e api.Errno
	}{
		{arith.Sum{}, 0, api.OK},
		{arith.Sum{Low: 1<<63 - 1}, math.MaxInt, api.OK},
		{arith.Sum{Low: 1 << 63}, 0, api.ErrOver},
		{arith.Sum{High: 1}, 0, api.ErrOver},
		{arith.Sum{High: math.MaxUint64, Low: 1 << 63}, math.MinInt, api.OK},
		{arith.Sum{High: math.MaxUint64, Low: 1<<63 - 1}, 0, api.ErrOver},
		{arith.Sum{High: math.MaxUint64, Low: math.MaxUint64, N: 9}, -1, api.OK},
		{arith.Sum{High: 1 << 63}, 0, api.ErrOver},
	} {
		if n, e := arith.Total(c.s); n != c.n || e != c.e {
			t.Error(c.s, n, e)
		}
	}
}

// P3.4: whatever the order, and whatever it was between.
func TestSumOrder(t *testing.T) {
	l := edges()
	want := new(big.Int)
	var up, down, left, right arith.Sum
	for i, n := range l {
		want.Add(want, big.NewInt(int64(n)))
		up, down = arith.Plus(up, n), arith.Plus(down, l[len(l)-1-i])
		if i%3 == 0 {
			left = arith.Plus(left, n)
		} else {
			right = arith.Plus(right, n)
		}
	}
	if up != down || arith.Join(left, right) != up || arith.Join(right, left) != up || up.N != len(l) {
		t.Error(up, down, left, right)
	}
	n, e := arith.Total(up)
	if (e == api.OK) != want.IsInt64() || e == api.OK && int64(n) != want.Int64() {
		t.Error(n, e, want)
	}
}

// P3.4
func TestBackBelow(t *testing.T) {
	s := arith.Plus(arith.Plus(arith.Plus(arith.Sum{}, math.MaxInt), 1), -1)
	if n, e := arith.Total(s); n != math.MaxInt || e != api.OK {
		t.Error(n, e)
	}
	s = arith.Plus(s, 1)
	if n, e := arith.Total(s); n != 0 || e != api.ErrOver {
		t.Error(n, e)
	}
}
