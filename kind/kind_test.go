package kind_test

import (
	"slices"
	"strings"
	"testing"

	"trommel/api"
	"trommel/kind"
	"trommel/name"
	"trommel/parse"
	"trommel/tree"
	"trommel/val"
)

// base: t (x y int, s text), u (x int, s text).
func base() []api.Table {
	return []api.Table{
		{Name: "t", Cols: []api.Column{{Name: "x", Kind: 1}, {Name: "s", Kind: 2}, {Name: "y", Kind: 1}}},
		{Name: "u", Cols: []api.Column{{Name: "x", Kind: 1}, {Name: "s", Kind: 2}}},
	}
}

func col(t, c int) api.Expr { return api.Expr{Op: api.OpCol, T: t, C: c} }

// parts holds one expression of each kind: null, number, text, truth.
func parts() []api.Expr {
	return []api.Expr{tree.Val(val.Null()), col(0, 0), col(1, 1), tree.Of(api.OpIsNull, col(0, 0))}
}

const (
	null  = api.KindNull
	num   = api.KindInt
	text  = api.KindText
	truth = api.KindTruth
	wrong = -1
)

func check(t *testing.T, e api.Expr, want int) {
	t.Helper()
	k, err := kind.Of(base(), e)
	if want == wrong && (k != 0 || err != api.ErrType) || want != wrong && (k != want || err != api.OK) {
		t.Error(e, k, err, want)
	}
}

// P12.1: of two parts.
func TestOfTwo(t *testing.T) {
	for op := api.OpEq; op <= api.OpOr; op++ {
		for a, x := range parts() {
			for b, y := range parts() {
				want := wrong
				switch {
				case op >= api.OpAnd:
					if (a == null || a == truth) && (b == null || b == truth) {
						want = truth
					}
				case op >= api.OpAdd:
					if a <= num && b <= num {
						want = num
					}
				case a != truth && b != truth && (a == b || a == null || b == null):
					want = truth
				}
				check(t, tree.Of(op, x, y), want)
			}
		}
	}
}

// P12.1: of one part.
func TestOfOne(t *testing.T) {
	for op, want := range map[int][4]int{
		api.OpNot:     {truth, wrong, wrong, truth},
		api.OpIsNull:  {truth, truth, truth, wrong},
		api.OpNotNull: {truth, truth, truth, wrong},
		api.OpCountOf: {num, num, num, wrong},
		api.OpSum:     {num, num, wrong, wrong},
		api.OpMin:     {null, num, text, wrong},
		api.OpMax:     {null, num, text, wrong},
	} {
		for i, x := range parts() {
			check(t, tree.Of(op, x), want[i])
		}
	}
	for op := api.OpCountOf; op <= api.OpMax; op++ {
		for inner := api.OpCountOf; inner <= api.OpMax; inner++ {
			check(t, tree.Of(op, tree.Of(inner, col(0, 0))), wrong)
		}
		check(t, tree.Of(op, tree.Of(api.OpCount)), wrong)
		check(t, tree.Of(op, tree.Of(api.OpAdd, col(0, 0), tree.Of(api.OpCount))), wrong)
	}
}

// P12.1: of no parts.
func TestOfNone(t *testing.T) {
	check(t, tree.Of(api.OpCount), num)
	for _, v := range []api.Val{val.Null(), val.Int(3), val.Text("a")} {
		check(t, tree.Val(v), v.Kind)
	}
	for _, v := range []api.Val{{Kind: 3}, {I: 1}, {Kind: 1, S: "a"}, {Kind: 2, S: strings.Repeat("a", 1<<16+1)}} {
		check(t, tree.Val(v), wrong)
	}
	check(t, col(0, 1), text)
	check(t, col(0, 2), num)
	for _, e := range []api.Expr{col(-1, 0), col(2, 0), col(0, -1), col(0, 3), col(1, 2), col(1<<40, 1<<40)} {
		check(t, e, wrong)
	}
}

// P12.1: no such Op, and other parts than there must be.
func TestOfWrong(t *testing.T) {
	for _, op := range []int{0, -1, 22, 23, 1 << 62, -1 << 63} {
		check(t, tree.Of(op), wrong)
		check(t, tree.Of(op, col(0, 0)), wrong)
		check(t, tree.Of(op, col(0, 0), col(0, 0)), wrong)
	}
	for op := 1; op <= api.OpMax; op++ {
		for n := range 4 {
			e := api.Expr{Op: op, L: slices.Repeat([]api.Expr{tree.Val(val.Null())}, n)}
			if n != tree.Args(op) {
				check(t, e, wrong)
			}
		}
	}
	bad := tree.Of(api.OpSum, col(0, 1))
	check(t, tree.Of(api.OpEq, bad, col(0, 0)), wrong)
	check(t, tree.Of(api.OpEq, col(0, 0), bad), wrong)
	check(t, tree.Of(api.OpIsNull, col(9, 0)), wrong)
}

// P12.2
func TestPlain(t *testing.T) {
	x := col(0, 0)
	for op := 0; op <= api.OpMax+1; op++ {
		want := op != api.OpAdd && op != api.OpSub && op != api.OpMul && (op < api.OpCount || op > api.OpMax)
		if kind.Plain(tree.Of(op, x, x)) != want || kind.Plain(tree.Of(api.OpEq, x, tree.Of(op))) != want {
			t.Error(op)
		}
	}
}

// P12.2
func TestTest(t *testing.T) {
	x, s := col(0, 0), col(0, 1)
	for i, c := range []struct {
		e    api.Expr
		want api.Errno
	}{
		{tree.Of(api.OpEq, x, x), api.OK},
		{tree.Val(val.Null()), api.OK},
		{tree.Of(api.OpNot, tree.Val(val.Null())), api.OK},
		{x, api.ErrType},
		{s, api.ErrType},
		{tree.Of(api.OpEq, x, s), api.ErrType},
		{tree.Of(api.OpAdd, x, x), api.ErrType},
		{tree.Of(api.OpAdd, x, s), api.ErrType},
		{tree.Of(api.OpEq, x, tree.Of(api.OpCount)), api.ErrType},
		{tree.Of(api.OpMin, tree.Val(val.Null())), api.ErrType},
		{tree.Of(api.OpEq, tree.Of(api.OpAdd, x, x), tree.Of(api.OpCount)), api.ErrType},
		{tree.Of(api.OpEq, x, tree.Of(api.OpAdd, x, x)), api.ErrLimit},
		{tree.Of(api.OpIsNull, tree.Of(api.OpMul, x, x)), api.ErrLimit},
		{api.Expr{}, api.ErrType},
	} {
		if got := kind.Test(base(), c.e); got != c.want {
			t.Error(i, got)
		}
	}
}

// P12.2
func TestGrouped(t *testing.T) {
	x := col(0, 0)
	for i, c := range []struct {
		q    api.Query
		want bool
	}{
		{api.Query{}, false},
		{api.Query{Items: []api.Expr{x, tree.Of(api.OpAdd, x, x)}}, false},
		{api.Query{Group: []api.Expr{x}}, true},
		{api.Query{Items: []api.Expr{x, tree.Of(api.OpCount)}}, true},
		{api.Query{Items: []api.Expr{tree.Of(api.OpAdd, x, tree.Of(api.OpSum, x))}}, true},
		{api.Query{Where: tree.Of(api.OpCount)}, false},
	} {
		if kind.Grouped(c.q) != c.want {
			t.Error(i)
		}
	}
}

func resolved(t *testing.T, s string) api.Query {
	t.Helper()
	q, e := parse.Query(s)
	if e == api.OK {
		q, e = name.Resolve(base(), q)
	}
	if e != api.OK {
		t.Fatal(s, e)
	}
	return q
}

// P12.3
func TestCheck(t *testing.T) {
	for s, want := range map[string][]int{
		"select x, s, null, 1, 'a', x + y from t":                                {num, text, null, num, text, num},
		"select t.x from t join u on t.x = u.x and t.s = u.s where null":         {num},
		"select count(*), count(s), sum(x), min(s), max(null), sum(null) from t": {num, num, num, text, null, num},
		"select x, count(*), x + 1 from t group by x":                            {num, num, num},
		"select 1, 'a', count(*) from t":                                         {num, text, num},
		"select x from t group by x, y":                                          {num},
		"select t.x + u.x from t join u on t.s < 'a' group by t.x, u.x":          {num},
		"select t.x from t left join u z on not z.s is null":                     {num},
	} {
		got, e := kind.Check(base(), resolved(t, s))
		if e != api.OK || !slices.Equal(got, want) {
			t.Error(s, got, e)
		}
	}
}

// P12.3: errors.
func TestCheckWrong(t *testing.T) {
	for s, want := range map[string]api.Errno{
		"select x + 1 from t where s = 1":                             api.ErrType,
		"select x = 1 from t":                                         api.ErrType,
		"select x is null from t":                                     api.ErrType,
		"select s + 1 from t":                                         api.ErrType,
		"select sum(s) from t":                                        api.ErrType,
		"select count(x = 1) from t":                                  api.ErrType,
		"select x from t where x":                                     api.ErrType,
		"select x from t where x + 1 = 2":                             api.ErrLimit,
		"select t.x from t join u on t.x + 1 = u.x":                   api.ErrLimit,
		"select t.x from t join u on t.x":                             api.ErrType,
		"select t.x from t join u on t.x + 1 = u.x where t.x":         api.ErrLimit,
		"select t.x from t join u on t.x where t.x + 1 = 1":           api.ErrType,
		"select t.s + 1 from t join u on t.x = u.x where t.x + 1 = 1": api.ErrLimit,
		"select x, y from t group by x":                               api.ErrType,
		"select x + y from t group by x":                              api.ErrType,
		"select x, count(*) from t":                                   api.ErrType,
		"select t.x, u.x from t join u on t.x = u.x group by t.x":     api.ErrType,
		"select s + 1, count(*) from t":                               api.ErrType,
	} {
		got, e := kind.Check(base(), resolved(t, s))
		if e != want || len(got) != 0 {
			t.Error(s, got, e)
		}
	}
}

// P12.3: queries that no text has.
func TestCheckOdd(t *testing.T) {
	good := resolved(t, "select x, count(*) from t group by x")
	for i, c := range []struct {
		change func(q *api.Query)
		want   api.Errno
	}{
		{func(q *api.Query) {}, api.OK},
		{func(q *api.Query) { q.From = nil }, api.ErrType},
		{func(q *api.Query) { q.Items = nil }, api.ErrType},
		{func(q *api.Query) { q.From[0].Table = "gone"; q.Items = nil }, api.ErrName},
		{func(q *api.Query) { q.From = append(q.From, q.From[0]) }, api.ErrName},
		{func(q *api.Query) { q.From[0].On = col(9, 9) }, api.OK},
		{func(q *api.Query) { q.Where = api.Expr{L: []api.Expr{col(9, 9)}} }, api.OK},
		{func(q *api.Query) { q.Where = api.Expr{Op: 99} }, api.ErrType},
		{func(q *api.Query) { q.Group = append(q.Group, tree.Val(val.Int(1))) }, api.ErrType},
		{func(q *api.Query) { q.Group = append(q.Group, col(0, 9)) }, api.ErrType},
		{func(q *api.Query) { q.Group = append(q.Group, tree.Of(api.OpAdd, col(0, 0), col(0, 0))) }, api.ErrType},
		{func(q *api.Query) { q.Items[0] = tree.Of(api.OpAdd, col(0, 0), tree.Of(api.OpCount)) }, api.ErrType},
		{func(q *api.Query) {
			q.Items[0] = tree.Of(api.OpAdd, tree.Val(val.Int(1)), tree.Of(api.OpCount))
			q.Group = nil
		}, api.ErrType},
		{func(q *api.Query) { q.Items[0] = tree.Of(api.OpMax, col(0, 1)) }, api.OK},
	} {
		q := good
		q.Items, q.From, q.Group = slices.Clone(good.Items), slices.Clone(good.From), slices.Clone(good.Group)
		c.change(&q)
		got, e := kind.Check(base(), q)
		if e != c.want || e != api.OK && len(got) != 0 {
			t.Error(i, got, e)
		}
	}
	if _, e := kind.Check(base(), api.Query{}); e != api.ErrType {
		t.Error(e)
	}
}

// P12.4: what may be a condition has nothing that is reckoned.
func TestTestIsPlain(t *testing.T) {
	for op := 1; op <= api.OpMax; op++ {
		for _, x := range parts() {
			for _, y := range parts() {
				e := tree.Of(api.OpIsNull, api.Expr{Op: op, L: []api.Expr{x, y}[:tree.Args(op)]})
				if kind.Test(base(), e) == api.OK && !kind.Plain(e) {
					t.Error(e)
				}
			}
		}
	}
}
