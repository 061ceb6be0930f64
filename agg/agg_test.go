package agg_test

import (
	"math"
	"slices"
	"testing"

	"trommel/agg"
	"trommel/api"
	"trommel/tree"
	"trommel/val"
)

func ops() []int {
	return []int{api.OpCount, api.OpCountOf, api.OpSum, api.OpMin, api.OpMax}
}

func ints(l ...int) []api.Val {
	out := []api.Val{}
	for _, n := range l {
		out = append(out, val.Int(n))
	}
	return out
}

// P14.1
func TestOf(t *testing.T) {
	n := val.Null()
	most, least := math.MaxInt, math.MinInt
	odd := []api.Val{val.Text("b"), val.Int(7), n, val.Text("a"), val.Int(-1)}
	for i, c := range []struct {
		l    []api.Val
		want [5]api.Val // by ops
		sum  api.Errno
	}{
		{nil, [5]api.Val{val.Int(0), val.Int(0), n, n, n}, api.OK},
		{[]api.Val{n, n}, [5]api.Val{val.Int(2), val.Int(0), n, n, n}, api.OK},
		{[]api.Val{n, val.Int(3), {I: 9}}, [5]api.Val{val.Int(3), val.Int(1), val.Int(3), val.Int(3), val.Int(3)}, api.OK},
		{ints(4, -2, 9, 4), [5]api.Val{val.Int(4), val.Int(4), val.Int(15), val.Int(-2), val.Int(9)}, api.OK},
		{ints(0, 5), [5]api.Val{val.Int(2), val.Int(2), val.Int(5), val.Int(0), val.Int(5)}, api.OK},
		{ints(-3, -5), [5]api.Val{val.Int(2), val.Int(2), val.Int(-8), val.Int(-5), val.Int(-3)}, api.OK},
		{ints(most, 1, -1), [5]api.Val{val.Int(3), val.Int(3), val.Int(most), val.Int(-1), val.Int(most)}, api.OK},
		{ints(most, 1), [5]api.Val{val.Int(2), val.Int(2), n, val.Int(1), val.Int(most)}, api.ErrOver},
		{ints(least, -1), [5]api.Val{val.Int(2), val.Int(2), n, val.Int(least), val.Int(-1)}, api.ErrOver},
		{ints(least, least, most, most, 1, 1), [5]api.Val{val.Int(6), val.Int(6), val.Int(0), val.Int(least), val.Int(most)}, api.OK},
		{odd, [5]api.Val{val.Int(5), val.Int(4), n, val.Int(-1), val.Text("b")}, api.ErrType},
		{append(ints(most, 1), val.Text("a")), [5]api.Val{val.Int(3), val.Int(3), n, val.Int(1), val.Text("a")}, api.ErrType},
		{[]api.Val{{Kind: 3}}, [5]api.Val{val.Int(1), val.Int(1), n, {Kind: 3}, {Kind: 3}}, api.ErrType},
	} {
		for k, op := range ops() {
			want := api.OK
			if op == api.OpSum {
				want = c.sum
			}
			if v, e := agg.Of(op, c.l); v != c.want[k] || e != want {
				t.Error(i, op, v, e)
			}
		}
	}
	for _, op := range []int{0, -1, api.OpCol, api.OpVal, api.OpMax + 1, api.OpAdd} {
		if v, e := agg.Of(op, ints(1)); v != n || e != api.ErrType {
			t.Error(op, v, e)
		}
	}
}

func fed(op int, l []api.Val) agg.Acc {
	a := agg.Start(op)
	for _, v := range l {
		a = agg.Feed(a, v)
	}
	return a
}

func same(t *testing.T, what any, a agg.Acc, op int, l []api.Val) {
	t.Helper()
	v, e := agg.Result(a)
	w, f := agg.Of(op, l)
	if v != w || e != f {
		t.Error(what, op, l, v, e, w, f)
	}
}

// values holds lists of some kinds.
func values() []api.Val {
	return append(ints(3, -7, math.MaxInt, 3, math.MaxInt, math.MinInt), val.Null(), val.Int(0), val.Null(), val.Text("q"), val.Text(""))
}

// P14.2, P14.4: however they are parted.
func TestMerge(t *testing.T) {
	l := values()
	for _, op := range append(ops(), 0, 99) {
		for end := range len(l) + 1 {
			for at := range end + 1 {
				a, b := fed(op, l[:at]), fed(op, l[at:end])
				same(t, at, agg.Merge(a, b), op, l[:end])
				same(t, at, agg.Merge(b, a), op, l[:end])
				same(t, at, a, op, l[:at])
			}
		}
	}
}

// P14.2: of another op.
func TestMergeOther(t *testing.T) {
	for _, op := range ops() {
		for _, other := range ops() {
			if op != other {
				same(t, other, agg.Merge(fed(op, ints(1, 2)), fed(other, ints(5))), op, ints(1, 2))
				same(t, other, agg.Merge(fed(op, nil), fed(other, ints(5))), op, nil)
			}
		}
	}
}

// P14.4: whatever the order.
func TestOrder(t *testing.T) {
	for _, op := range ops() {
		for _, l := range [][]api.Val{values(), values()[:8]} {
			want := slices.Clone(l)
			for turn := range l {
				got := append(slices.Clone(l[turn:]), l[:turn]...)
				slices.Reverse(got)
				same(t, turn, fed(op, got), op, want)
			}
		}
	}
}

func env(a, b api.Val) [][]api.Val { return [][]api.Val{{a}, {val.Int(99), b}} }

func col(t, c int) api.Expr { return api.Expr{Op: api.OpCol, T: t, C: c} }

// P14.3
func TestGroups(t *testing.T) {
	n, one, two, a := val.Null(), val.Int(1), val.Int(2), val.Text("a")
	envs := [][][]api.Val{env(one, a), env(two, a), env(n, n), env(one, n), env(two, a), env(n, n), env(one, a), nil, env(api.Val{I: 1}, n)}
	first := [][]int{{0, 3, 6}, {1, 4}, {2, 5, 7}, {8}}
	for i, c := range []struct {
		by   []api.Expr
		want [][]int
	}{
		{[]api.Expr{col(0, 0)}, first},
		{[]api.Expr{{T: 0, C: 0, Op: 99, L: []api.Expr{col(1, 1)}}}, first},
		{[]api.Expr{tree.Val(val.Int(3))}, first},
		{[]api.Expr{col(1, 1)}, [][]int{{0, 1, 4, 6}, {2, 3, 5, 7, 8}}},
		{[]api.Expr{col(0, 0), col(1, 1)}, [][]int{{0, 6}, {1, 4}, {2, 5, 7}, {3}, {8}}},
		{[]api.Expr{col(1, 1), col(0, 0)}, [][]int{{0, 6}, {1, 4}, {2, 5, 7}, {3}, {8}}},
		{[]api.Expr{col(1, 0)}, [][]int{{0, 1, 2, 3, 4, 5, 6, 8}, {7}}},
		{[]api.Expr{col(9, -1)}, [][]int{{0, 1, 2, 3, 4, 5, 6, 7, 8}}},
		{nil, [][]int{{0, 1, 2, 3, 4, 5, 6, 7, 8}}},
	} {
		for _, all := range []bool{false, true} {
			if got := agg.Groups(envs, c.by, all); !slices.EqualFunc(got, c.want, slices.Equal) {
				t.Error(i, got)
			}
		}
	}
}

// P14.3: of no environments.
func TestGroupsOfNone(t *testing.T) {
	if got := agg.Groups(nil, nil, true); len(got) != 1 || len(got[0]) != 0 {
		t.Error(got)
	}
	if got := agg.Groups(nil, nil, false); len(got) != 0 {
		t.Error(got)
	}
	for _, all := range []bool{false, true} {
		if got := agg.Groups(nil, []api.Expr{col(0, 0)}, all); len(got) != 0 {
			t.Error(got)
		}
	}
}
