package print_test

import (
	"math"
	"testing"

	"trommel/api"
	"trommel/parse"
	"trommel/print"
	"trommel/tree"
	"trommel/val"
)

// P10.1
func TestOp(t *testing.T) {
	want := []string{"", "=", "<>", "<", "<=", ">", ">=", "+", "-", "*", "and", "or", "not", "", "", "", "", "", "count", "sum", "min", "max", ""}
	for op, w := range want {
		if got := print.Op(op); got != w {
			t.Error(op, got)
		}
	}
	for _, op := range []int{-1, math.MinInt, 23, math.MaxInt} {
		if print.Op(op) != "" {
			t.Error(op)
		}
	}
}

// P10.1
func TestVal(t *testing.T) {
	for _, c := range []struct {
		v    api.Val
		want string
	}{
		{val.Null(), "null"}, {api.Val{I: 3, S: "x"}, "null"},
		{val.Int(0), "0"}, {val.Int(-12), "-12"}, {val.Int(math.MinInt), "-9223372036854775808"}, {val.Int(math.MaxInt), "9223372036854775807"},
		{val.Text(""), "''"}, {val.Text("it's"), "'it''s'"},
		{api.Val{Kind: 3}, "?"}, {api.Val{Kind: -1}, "?"},
	} {
		if got := print.Val(c.v); got != c.want {
			t.Error(c.v, got)
		}
	}
}

func x() api.Expr { return tree.Col("a", "x") }

func one() api.Expr { return tree.Val(val.Int(1)) }

// P10.2
func TestExpr(t *testing.T) {
	of := tree.Of
	for _, c := range []struct {
		e    api.Expr
		want string
	}{
		{x(), "a.x"},
		{tree.Col("", "x"), "x"},
		{tree.Col("", ""), ""},
		{tree.Col("a", ""), "a."},
		{tree.Val(val.Text("'")), "''''"},
		{api.Expr{}, "?"},
		{of(99, x()), "?"},
		{of(-1), "?"},
		{of(api.OpCount), "count(*)"},
		{of(api.OpCount, x()), "count(*)"},
		{of(api.OpCountOf, x()), "count(a.x)"},
		{of(api.OpSum, of(api.OpOr, x(), one())), "sum(a.x or 1)"},
		{of(api.OpMin), "min(?)"},
		{of(api.OpMax, x(), one()), "max(a.x)"},
		{of(api.OpMul, of(api.OpAdd, x(), one()), tree.Val(val.Int(2))), "(a.x + 1) * 2"},
		{of(api.OpMul, one(), of(api.OpMul, x(), one())), "1 * (a.x * 1)"},
		{of(api.OpMul, of(api.OpMul, x(), one()), one()), "a.x * 1 * 1"},
		{of(api.OpSub, one(), of(api.OpAdd, x(), one())), "1 - (a.x + 1)"},
		{of(api.OpAdd, of(api.OpSub, x(), one()), of(api.OpMul, one(), x())), "a.x - 1 + 1 * a.x"},
		{of(api.OpAdd, of(api.OpEq, x(), one()), of(api.OpIsNull, x())), "(a.x = 1) + (a.x is null)"},
		{of(api.OpEq, of(api.OpAdd, x(), x()), of(api.OpAdd, x(), x())), "a.x + a.x = a.x + a.x"},
		{of(api.OpLe, of(api.OpLt, x(), x()), of(api.OpGe, x(), x())), "(a.x < a.x) <= (a.x >= a.x)"},
		{of(api.OpNe, of(api.OpNot, x()), of(api.OpAnd, x(), x())), "(not a.x) <> (a.x and a.x)"},
		{of(api.OpGt, x(), of(api.OpNotNull, x())), "a.x > (a.x is not null)"},
		{of(api.OpIsNull, of(api.OpAdd, x(), one())), "a.x + 1 is null"},
		{of(api.OpNotNull, of(api.OpAdd, x(), one())), "a.x + 1 is not null"},
		{of(api.OpNotNull, of(api.OpEq, x(), one())), "(a.x = 1) is not null"},
		{of(api.OpIsNull, of(api.OpEq, x(), one())), "(a.x = 1) is null"},
		{of(api.OpNotNull, of(api.OpIsNull, x())), "(a.x is null) is not null"},
		{of(api.OpNotNull, of(api.OpMul, x(), one())), "a.x * 1 is not null"},
		{of(api.OpNot, of(api.OpNot, of(api.OpEq, x(), one()))), "not not a.x = 1"},
		{of(api.OpNot, of(api.OpAnd, x(), one())), "not (a.x and 1)"},
		{of(api.OpAnd, of(api.OpAnd, x(), one()), of(api.OpAnd, x(), one())), "a.x and 1 and (a.x and 1)"},
		{of(api.OpAnd, of(api.OpOr, x(), one()), of(api.OpNot, x())), "(a.x or 1) and not a.x"},
		{of(api.OpOr, of(api.OpOr, x(), one()), of(api.OpOr, x(), one())), "a.x or 1 or (a.x or 1)"},
		{of(api.OpOr, of(api.OpAnd, x(), one()), of(api.OpAnd, x(), one())), "a.x and 1 or a.x and 1"},
		{of(api.OpAdd, x()), "a.x + ?"},
		{of(api.OpEq), "? = ?"},
		{of(api.OpNot), "not ?"},
		{of(api.OpIsNull), "? is null"},
		{of(api.OpAdd, x(), one(), one()), "a.x + 1"},
	} {
		if got := print.Expr(c.e); got != c.want {
			t.Error(got, "|", c.want)
		}
	}
}

// P10.3
func TestQuery(t *testing.T) {
	for _, c := range []struct {
		q    api.Query
		want string
	}{
		{api.Query{}, "select  from "},
		{api.Query{Items: []api.Expr{x(), one()}, From: []api.From{{Table: "a", As: "b", On: x()}}}, "select a.x, 1 from a b"},
		{api.Query{Items: []api.Expr{x()}, From: []api.From{{Join: 3, Table: "a", As: "b", On: x()}, {Join: 2, Table: "c", On: one()}}}, "select a.x from  semi join a b left join c on 1"},
		{api.Query{
			Items: []api.Expr{x()},
			From: []api.From{
				{Table: "a"}, {Join: 1, Table: "b", On: x()}, {Join: 2, Table: "c", As: "d", On: one()},
				{Join: 3, Table: "e", On: tree.Of(api.OpOr, x(), x())}, {Join: 4, Table: "f"}, {Join: 0, Table: "g", On: x()}, {Join: 9, Table: "h", On: x()},
			},
			Where: tree.Of(api.OpEq, x(), one()),
			Group: []api.Expr{x(), tree.Col("", "y")},
		}, "select a.x from a join b on a.x left join c d on 1 semi join e on a.x or a.x anti join f on ?, g on a.x, h on a.x where a.x = 1 group by a.x, y"},
		{api.Query{Where: tree.Of(99)}, "select  from  where ?"},
	} {
		if got := print.Query(c.q); got != c.want {
			t.Error(got)
		}
	}
}

// P10.3: but the comma stands ahead of the first one as of any other.
func TestFirstTable(t *testing.T) {
	for _, c := range []struct {
		join        int
		first, next string
	}{
		{api.JoinInner, " join ", " join "}, {api.JoinLeft, " left join ", " left join "},
		{api.JoinSemi, " semi join ", " semi join "}, {api.JoinAnti, " anti join ", " anti join "},
		{0, "", ", "}, {5, "", ", "}, {9, "", ", "}, {-1, "", ", "}, {math.MinInt, "", ", "}, {math.MaxInt, "", ", "},
	} {
		alone := []api.From{{Join: c.join, Table: "a", On: one()}}
		if got := print.Query(api.Query{From: alone}); got != "select  from "+c.first+"a" {
			t.Error(c.join, got)
		}
		two := append(alone, api.From{Join: c.join, Table: "b", On: one()})
		if got := print.Query(api.Query{From: two}); got != "select  from "+c.first+"a"+c.next+"b on 1" {
			t.Error(c.join, got)
		}
	}
}

// P10.4
func TestParsedAgain(t *testing.T) {
	for _, s := range []string{
		"select x from t",
		"select a.x + 1 * 2 - (3 - y) * (4 * 5), count(*), count(x or y), sum((x)), min('it''s'), max(null) from t as a",
		"select x from a b left join c on not (x = 1 and y < 2 or z >= 3) and not not x is null semi join d e on (x = y) = (y = z) anti join f on 1",
		"select x from a join b on (x or y) and (z or (x and y)) or (x or y) where (x is null) is not null and 007 = x group by a.x, y",
		"select ((1 + 2) + (3 + 4)) * ((5 * 6) * (7 * 8)) from t where ((a and b) and (c and d)) <> (not e) or (not (f)) = g",
	} {
		q, e := parse.Query(s)
		if e != api.OK {
			t.Fatal(s)
		}
		text := print.Query(q)
		again, e := parse.Query(text)
		if e != api.OK || !tree.SameQuery(q, again) {
			t.Error(s, text, e)
		}
	}
}

// random makes a tree as parse might tell it.
func random(r *uint32, depth int) api.Expr {
	*r = *r*1664525 + 1013904223
	n := int(*r >> 10)
	if depth == 0 {
		return []api.Expr{x(), one(), tree.Col("", "y"), tree.Val(val.Text("a'b")), tree.Val(val.Null())}[n%5]
	}
	op := 1 + n%14
	if tree.Args(op) == 1 {
		return tree.Of(op, random(r, depth-1))
	}
	return tree.Of(op, random(r, depth-1), random(r, depth-1-n/14%depth))
}

// P10.4
func TestAnyTree(t *testing.T) {
	r := uint32(3)
	for i := range 500 {
		e := random(&r, 1+i%5)
		again, err := parse.Expr(print.Expr(e))
		if err != api.OK || !tree.Same(e, again) {
			t.Fatal(print.Expr(e), err, print.Expr(again))
		}
	}
}
