package tree_test

import (
	"slices"
	"testing"

	"trommel/api"
	"trommel/tree"
	"trommel/val"
)

func x() api.Expr { return tree.Col("a", "x") }

func one() api.Expr { return tree.Val(val.Int(1)) }

// some: a tree of ten nodes: not (a.x + 1 = y) or count(s) is null.
func some() api.Expr {
	sum := tree.Of(api.OpAdd, x(), one())
	not := tree.Of(api.OpNot, tree.Of(api.OpEq, sum, tree.Col("", "y")))
	return tree.Of(api.OpOr, not, tree.Of(api.OpIsNull, tree.Of(api.OpCountOf, tree.Col("", "s"))))
}

// P8.1
func TestMade(t *testing.T) {
	e := x()
	if e.Op != api.OpCol || e.Tab != "a" || e.Name != "x" || e.T != 0 || e.C != 0 || e.Val != (api.Val{}) || len(e.L) != 0 {
		t.Error(e)
	}
	e = one()
	if e.Op != api.OpVal || e.Val != val.Int(1) || e.Tab != "" || e.Name != "" || len(e.L) != 0 {
		t.Error(e)
	}
	l := []api.Expr{x(), one()}
	e = tree.Of(api.OpSub, l...)
	if e.Op != api.OpSub || e.Tab != "" || e.Name != "" || e.Val != (api.Val{}) || len(e.L) != 2 || !tree.Same(e.L[0], x()) || !tree.Same(e.L[1], one()) {
		t.Error(e)
	}
	if e = tree.Of(99); e.Op != 99 || len(e.L) != 0 {
		t.Error(e)
	}
}

// unlike holds trees of which no two are the same.
func unlike() []api.Expr {
	return []api.Expr{
		{}, {Op: 1}, {Tab: "a"}, {Name: "a"}, {T: 1}, {C: 1}, {Val: val.Int(0)}, {Val: val.Int(1)},
		{L: []api.Expr{{}}}, {L: []api.Expr{{}, {}}}, {L: []api.Expr{{Op: 1}}}, {L: []api.Expr{{L: []api.Expr{{C: 1}}}}},
		x(), one(), some(), tree.Of(api.OpAdd, x(), one()), tree.Of(api.OpAdd, one(), x()),
	}
}

// P8.1
func TestSame(t *testing.T) {
	for i, a := range unlike() {
		for k, b := range unlike() {
			if tree.Same(a, b) != (i == k) {
				t.Error(a, b)
			}
		}
	}
	if !tree.Same(api.Expr{L: []api.Expr{}}, api.Expr{}) {
		t.Error("nil is as empty")
	}
}

func query() api.Query {
	return api.Query{
		Items: []api.Expr{x(), one()},
		From:  []api.From{{Table: "a"}, {Join: 1, Table: "b", As: "c", On: some()}},
		Where: some(),
		Group: []api.Expr{x()},
	}
}

// P8.1
func TestSameQuery(t *testing.T) {
	changes := []func(q *api.Query){
		func(q *api.Query) {},
		func(q *api.Query) { q.Items[1] = x() },
		func(q *api.Query) { q.Items = q.Items[:1] },
		func(q *api.Query) { q.From = q.From[:1] },
		func(q *api.Query) { q.From[1].Join = 2 },
		func(q *api.Query) { q.From[1].Table = "d" },
		func(q *api.Query) { q.From[1].As = "" },
		func(q *api.Query) { q.From[1].On = x() },
		func(q *api.Query) { q.Where = api.Expr{} },
		func(q *api.Query) { q.Group = nil },
		func(q *api.Query) { q.Group[0] = one() },
	}
	for i, change := range changes {
		for k, other := range changes {
			a, b := query(), query()
			change(&a)
			other(&b)
			if tree.SameQuery(a, b) != (i == k) {
				t.Error(i, k)
			}
		}
	}
	if !tree.SameQuery(api.Query{}, api.Query{Items: []api.Expr{}, From: []api.From{}, Group: []api.Expr{}}) {
		t.Error("nil is as empty")
	}
}

// P8.2
func TestCounts(t *testing.T) {
	for _, c := range []struct {
		e            api.Expr
		nodes, depth int
	}{
		{api.Expr{}, 1, 1},
		{x(), 1, 1},
		{tree.Of(api.OpAdd, x(), one()), 3, 2},
		{some(), 10, 5},
		{tree.Of(0, api.Expr{}, some(), api.Expr{}), 13, 6},
		{tree.Of(api.OpCol, x(), some()), 12, 6},
	} {
		if tree.Nodes(c.e) != c.nodes || tree.Depth(c.e) != c.depth {
			t.Error(c.e, tree.Nodes(c.e), tree.Depth(c.e))
		}
	}
}

// P8.2
func TestCols(t *testing.T) {
	names := []string{}
	for _, c := range tree.Cols(some()) {
		names = append(names, c.Tab+"."+c.Name)
	}
	if !slices.Equal(names, []string{"a.x", ".y", ".s"}) {
		t.Error(names)
	}
	own := api.Expr{Op: api.OpCol, Name: "z", L: []api.Expr{x()}}
	got := tree.Cols(tree.Of(api.OpNot, own))
	if len(got) != 1 || !tree.Same(got[0], own) {
		t.Error(got)
	}
	if len(tree.Cols(one())) != 0 || len(tree.Cols(api.Expr{})) != 0 || len(tree.Cols(x())) != 1 {
		t.Error("of one node")
	}
}

// P8.2
func TestSums(t *testing.T) {
	for op := -1; op <= api.OpMax+2; op++ {
		want := op >= api.OpCount && op <= api.OpMax
		if tree.Sums(tree.Of(op)) != want || tree.Sums(tree.Of(api.OpAdd, one(), tree.Of(op, x()))) != want {
			t.Error(op)
		}
	}
	if !tree.Sums(some()) || tree.Sums(api.Expr{}) {
		t.Error("Sums")
	}
}

// P8.3
func TestArgsAndLevel(t *testing.T) {
	args := []int{0, 2, 2, 2, 2, 2, 2, 2, 2, 2, 2, 2, 1, 1, 1, 0, 0, 0, 1, 1, 1, 1, 0}
	level := []int{7, 4, 4, 4, 4, 4, 4, 5, 5, 6, 2, 1, 3, 4, 4, 7, 7, 7, 7, 7, 7, 7, 7}
	for op := range args {
		if tree.Args(op) != args[op] || tree.Level(tree.Of(op, x(), x())) != level[op] {
			t.Error(op, tree.Args(op), tree.Level(tree.Of(op)))
		}
	}
	for _, op := range []int{-1, -1 << 63, 23, 1 << 62} {
		if tree.Args(op) != 0 || tree.Level(tree.Of(op)) != 7 {
			t.Error(op)
		}
	}
}

// P8.4
func TestBounds(t *testing.T) {
	deep := x()
	for range 1 << 15 {
		deep = tree.Of(api.OpNot, deep)
	}
	for _, e := range append(unlike(), deep) {
		if len(tree.Cols(e)) > tree.Nodes(e) || tree.Depth(e) > tree.Nodes(e) {
			t.Error(tree.Nodes(e))
		}
	}
	if tree.Depth(deep) != 1<<15+1 || !tree.Same(deep, deep) || tree.Sums(deep) {
		t.Error("a deep one")
	}
}
