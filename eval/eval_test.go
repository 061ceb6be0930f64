package eval_test

import (
	"math"
	"testing"

	"trommel/api"
	"trommel/eval"
	"trommel/logic"
	"trommel/rows"
	"trommel/tree"
	"trommel/val"
)

const (
	no   = api.False
	yes  = api.True
	open = api.Unknown
)

// env: a row 5, null, 'a'; none; a row 2^63 - 1.
func env() [][]api.Val {
	return [][]api.Val{{val.Int(5), val.Null(), val.Text("a")}, nil, {val.Int(math.MaxInt)}}
}

func col(t, c int) api.Expr { return api.Expr{Op: api.OpCol, T: t, C: c} }

func num(n int) api.Expr { return tree.Val(val.Int(n)) }

func none() api.Expr { return tree.Val(val.Null()) }

// P13.1
func TestAt(t *testing.T) {
	for _, c := range []struct {
		t, c int
		want api.Val
	}{
		{0, 0, val.Int(5)}, {0, 1, val.Null()}, {0, 2, val.Text("a")}, {2, 0, val.Int(math.MaxInt)},
		{1, 0, val.Null()}, {0, 3, val.Null()}, {0, -1, val.Null()}, {-1, 0, val.Null()}, {3, 0, val.Null()}, {math.MaxInt, math.MinInt, val.Null()},
	} {
		if got := eval.At(env(), c.t, c.c); got != c.want {
			t.Error(c, got)
		}
	}
	if eval.At(nil, 0, 0) != val.Null() {
		t.Error("of none")
	}
}

func same(a, b [][]api.Val) bool {
	if len(a) != len(b) {
		return false
	}
	for i := range a {
		if !rows.Same(a[i], b[i]) {
			return false
		}
	}
	return true
}

// P13.1
func TestWith(t *testing.T) {
	r := []api.Val{val.Int(7)}
	for _, place := range []int{0, 1, 2, 3, 5, 63} {
		want := make([][]api.Val, max(3, place+1))
		copy(want, env())
		want[place] = r
		in := env()
		if got := eval.With(in, place, r); !same(got, want) {
			t.Error(place, got)
		}
		if !same(in, env()) {
			t.Error("what was handed in is another one", place)
		}
	}
	for _, place := range []int{-1, 64, 1 << 40, math.MinInt, math.MaxInt} {
		if got := eval.With(env(), place, r); !same(got, env()) {
			t.Error(place, got)
		}
	}
	if got := eval.With(nil, 1, nil); !same(got, [][]api.Val{nil, nil}) {
		t.Error(got)
	}
	spare := append(make([][]api.Val, 0, 8), env()...)
	eval.With(spare, 3, r)
	if spare[:4][3] != nil {
		t.Error("spare room")
	}
}

// P13.2
func TestVal(t *testing.T) {
	of, over, odd := tree.Of, tree.Of(api.OpAdd, col(2, 0), num(1)), tree.Of(api.OpEq, num(1), num(1))
	for i, c := range []struct {
		e    api.Expr
		v    api.Val
		want api.Errno
	}{
		{col(0, 0), val.Int(5), api.OK},
		{col(9, 9), val.Null(), api.OK},
		{api.Expr{Op: api.OpCol, L: []api.Expr{over}}, val.Int(5), api.OK},
		{num(3), val.Int(3), api.OK},
		{tree.Val(api.Val{Kind: 9, I: 1}), api.Val{Kind: 9, I: 1}, api.OK},
		{of(api.OpAdd, col(0, 0), num(2)), val.Int(7), api.OK},
		{of(api.OpSub, col(0, 0), num(2)), val.Int(3), api.OK},
		{of(api.OpMul, col(0, 0), of(api.OpSub, num(1), num(3))), val.Int(-10), api.OK},
		{of(api.OpMul, col(0, 1), num(3)), val.Null(), api.OK},
		{over, val.Null(), api.ErrOver},
		{of(api.OpAdd, col(0, 2), num(1)), val.Null(), api.ErrType},
		{of(api.OpAdd, over, odd), val.Null(), api.ErrOver},
		{of(api.OpAdd, odd, over), val.Null(), api.ErrType},
		{of(api.OpAdd, none(), over), val.Null(), api.ErrOver},
		{of(api.OpAdd, tree.Val(val.Text("a")), over), val.Null(), api.ErrOver},
		{of(api.OpAdd, num(1)), val.Null(), api.ErrType},
		{of(api.OpAdd), val.Null(), api.ErrType},
		{of(api.OpMul, num(1), num(1), num(1)), val.Null(), api.ErrType},
		{odd, val.Null(), api.ErrType},
		{of(api.OpNot, num(1)), val.Null(), api.ErrType},
		{of(api.OpCount), val.Null(), api.ErrType},
		{of(api.OpMax, num(1)), val.Null(), api.ErrType},
		{api.Expr{}, val.Null(), api.ErrType},
		{of(-1), val.Null(), api.ErrType},
	} {
		if v, e := eval.Val(c.e, env()); v != c.v || e != c.want {
			t.Error(i, v, e)
		}
	}
}

// P13.3: signs between two values.
func TestTruthOfSigns(t *testing.T) {
	values := []api.Val{val.Null(), val.Int(1), val.Int(2), val.Text("a"), val.Text("b")}
	over := tree.Of(api.OpAdd, col(2, 0), num(1))
	for op := api.OpEq; op <= api.OpGe; op++ {
		for _, a := range values {
			for _, b := range values {
				if got := eval.Truth(tree.Of(op, tree.Val(a), tree.Val(b)), nil); got != logic.Test(op, a, b) {
					t.Error(op, a, b, got)
				}
			}
		}
		for _, e := range []api.Expr{tree.Of(op), tree.Of(op, num(1)), tree.Of(op, num(1), num(1), num(1)), tree.Of(op, over, num(1)), tree.Of(op, num(1), over)} {
			if eval.Truth(e, env()) != open {
				t.Error(op, e)
			}
		}
	}
}

// truths holds expressions that are False, True, Unknown.
func truths() []api.Expr {
	return []api.Expr{tree.Of(api.OpEq, num(1), num(2)), tree.Of(api.OpEq, num(1), num(1)), tree.Of(api.OpEq, num(1), none())}
}

// P13.3
func TestTruthOfWords(t *testing.T) {
	of := tree.Of
	for a, x := range truths() {
		if eval.Truth(of(api.OpNot, x), nil) != logic.Not(a) || eval.Truth(x, nil) != a {
			t.Error(a)
		}
		for b, y := range truths() {
			if eval.Truth(of(api.OpAnd, x, y), nil) != logic.And(a, b) || eval.Truth(of(api.OpOr, x, y), nil) != logic.Or(a, b) {
				t.Error(a, b)
			}
		}
		for _, e := range []api.Expr{of(api.OpAnd, x), of(api.OpAnd), of(api.OpOr, x), of(api.OpOr, x, x, x), of(api.OpNot), of(api.OpNot, x, x)} {
			if eval.Truth(e, nil) != open {
				t.Error(e)
			}
		}
	}
}

// P13.3
func TestTruthOfOthers(t *testing.T) {
	of, over := tree.Of, tree.Of(api.OpAdd, col(2, 0), num(1))
	for i, c := range []struct {
		e    api.Expr
		want int
	}{
		{of(api.OpIsNull, col(0, 1)), yes}, {of(api.OpIsNull, col(0, 0)), no}, {of(api.OpIsNull, col(7, 7)), yes},
		{of(api.OpNotNull, col(0, 1)), no}, {of(api.OpNotNull, col(0, 0)), yes},
		{of(api.OpIsNull, over), no}, {of(api.OpNotNull, over), yes},
		{of(api.OpIsNull), open}, {of(api.OpIsNull, num(1), num(1)), open}, {of(api.OpNotNull), open},
		{none(), open}, {num(1), open}, {col(0, 0), open}, {col(0, 1), open},
		{of(api.OpAdd, num(1), num(1)), open}, {of(api.OpCount), open}, {of(api.OpSum, num(1)), open}, {api.Expr{}, open}, {of(99, num(1), num(1)), open},
		{of(api.OpNot, of(api.OpEq, col(0, 1), none())), open},
	} {
		if got := eval.Truth(c.e, env()); got != c.want {
			t.Error(i, got)
		}
	}
}

// P13.3
func TestHolds(t *testing.T) {
	l := truths()
	for i, c := range []struct {
		l    []api.Expr
		want bool
	}{
		{nil, true}, {l[1:2], true}, {[]api.Expr{l[1], l[1]}, true}, {l[:1], false}, {l[2:], false}, {[]api.Expr{l[1], l[2]}, false}, {l, false},
	} {
		if eval.Holds(c.l, nil) != c.want {
			t.Error(i)
		}
	}
}

// P13.4: other columns than its own play no part.
func TestOwnColumns(t *testing.T) {
	e := tree.Of(api.OpOr, tree.Of(api.OpLt, col(0, 0), col(2, 0)), tree.Of(api.OpIsNull, col(1, 0)))
	other := env()
	other[0] = []api.Val{val.Int(5), val.Int(9)}
	other = append(other, []api.Val{val.Int(1)})
	if eval.Truth(e, env()) != yes || eval.Truth(e, other) != yes {
		t.Error("Truth")
	}
	v, _ := eval.Val(tree.Of(api.OpSub, col(2, 0), col(0, 0)), other)
	if v != val.Int(math.MaxInt-5) {
		t.Error(v)
	}
}
