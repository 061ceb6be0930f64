package norm_test

import (
	"slices"
	"strconv"
	"strings"
	"testing"

	"trommel/api"
	"trommel/deno"
	"trommel/eval"
	"trommel/name"
	"trommel/norm"
	"trommel/print"
	"trommel/sample"
	"trommel/tree"
	"trommel/val"
)

func col(t, c int) api.Expr { return api.Expr{Op: api.OpCol, T: t, C: c} }

func num(n int) api.Expr { return tree.Val(val.Int(n)) }

func texts(l []api.Expr) string {
	out := []string{}
	for _, e := range l {
		out = append(out, print.Expr(e))
	}
	return strings.Join(out, "; ")
}

func edges(l []api.Edge) string {
	out := ""
	for _, e := range l {
		out += strconv.Itoa(e.A) + "." + strconv.Itoa(e.AC) + "=" + strconv.Itoa(e.B) + "." + strconv.Itoa(e.BC) + " "
	}
	return strings.TrimSpace(out)
}

// P16.1
func TestParts(t *testing.T) {
	of, x, y, z := tree.Of, num(1), num(2), num(3)
	for i, c := range []struct {
		e    api.Expr
		want string
	}{
		{api.Expr{}, ""},
		{x, "1"},
		{of(api.OpAnd, x, y), "1; 2"},
		{of(api.OpAnd, of(api.OpAnd, x, y), of(api.OpAnd, y, z)), "1; 2; 2; 3"},
		{of(api.OpAnd, of(api.OpOr, x, of(api.OpAnd, y, z)), z), "1 or 2 and 3; 3"},
		{of(api.OpNot, of(api.OpAnd, x, y)), "not (1 and 2)"},
		{of(api.OpAnd, api.Expr{}, y), "2"},
		{of(api.OpAnd, x), "1 and ?"},
		{of(api.OpAnd, x, y, z), "1 and 2"},
		{of(99), "?"},
	} {
		if got := texts(norm.Parts(c.e)); got != c.want {
			t.Error(i, got)
		}
	}
	deep := x
	for range 1 << 15 {
		deep = of(api.OpAnd, y, deep)
	}
	if len(norm.Parts(deep)) != 1<<15+1 {
		t.Error("a deep one")
	}
}

// P16.1
func TestUses(t *testing.T) {
	e := tree.Of(api.OpOr, tree.Of(api.OpEq, col(3, 0), col(1, 1)), tree.Of(api.OpAnd, col(3, 2), tree.Of(api.OpNot, col(-2, 0))))
	if got := norm.Uses(e); !slices.Equal(got, []int{-2, 1, 3}) {
		t.Error(got)
	}
	if len(norm.Uses(num(1))) != 0 || len(norm.Uses(api.Expr{})) != 0 || !slices.Equal(norm.Uses(col(4, 0)), []int{4}) {
		t.Error("of one node")
	}
}

// P16.1
func TestCore(t *testing.T) {
	for i, c := range []struct {
		joins []int
		want  int
	}{
		{nil, 0}, {[]int{0}, 1}, {[]int{4}, 1}, {[]int{0, 1, 1}, 3}, {[]int{0, 2, 1}, 1}, {[]int{0, 1, 3, 1}, 2}, {[]int{0, 1, 4}, 2}, {[]int{1, 0}, 1}, {[]int{0, 9}, 1},
	} {
		q := api.Query{}
		for _, j := range c.joins {
			q.From = append(q.From, api.From{Join: j})
		}
		if got := norm.Core(q); got != c.want {
			t.Error(i, got)
		}
	}
}

// P16.1
func TestAsEdge(t *testing.T) {
	want := api.Edge{A: 1, AC: 5, B: 2, BC: 7}
	for _, e := range []api.Expr{tree.Of(api.OpEq, col(1, 5), col(2, 7)), tree.Of(api.OpEq, col(2, 7), col(1, 5))} {
		if got, ok := norm.AsEdge(e); got != want || !ok {
			t.Error(got, ok)
		}
	}
	a, b := col(1, 5), col(2, 7)
	for i, e := range []api.Expr{
		tree.Of(api.OpNe, a, b), tree.Of(api.OpLe, a, b), tree.Of(api.OpEq, a, col(1, 6)), tree.Of(api.OpEq, a, num(1)), tree.Of(api.OpEq, num(1), b),
		tree.Of(api.OpEq, a), tree.Of(api.OpEq, a, b, b), tree.Of(api.OpEq), a, {}, tree.Of(api.OpNot, tree.Of(api.OpEq, a, b)),
		tree.Of(api.OpEq, tree.Of(api.OpAdd, a, num(1)), b),
	} {
		if got, ok := norm.AsEdge(e); got != (api.Edge{}) || ok {
			t.Error(i, got, ok)
		}
	}
}

func ready(t *testing.T, s string) api.Query {
	t.Helper()
	db := []api.Table{}
	for _, n := range []string{"a", "b", "c", "d"} {
		db = append(db, api.Table{Name: n, Cols: []api.Column{{Name: "x", Kind: 1}, {Name: "y", Kind: 1}}})
	}
	q, e := deno.Ready(db, s)
	if e != api.OK {
		t.Fatal(s, e)
	}
	return q
}

func show(n api.Norm) string {
	out := strconv.Itoa(n.Core)
	for i, l := range n.Scan {
		if len(l) > 0 {
			out += " scan" + strconv.Itoa(i) + "(" + texts(l) + ")"
		}
	}
	out += " edges(" + edges(n.Edges) + ") rest(" + texts(n.Rest) + ") where(" + texts(n.Where) + ")"
	for _, l := range n.Late {
		out += " late" + strconv.Itoa(l.Table) + "," + strconv.Itoa(l.Join) + "(" + edges(l.Keys) + ")(" + texts(l.Scan) + ")(" + texts(l.Rest) + ")"
	}
	return out
}

// P16.2
func TestOf(t *testing.T) {
	for s, want := range map[string]string{
		"select a.x from a join b on a.x = b.x where a.y = 1 and b.y < a.y": "2 scan0(a.y = 1) edges(0.0=1.0) rest(b.y < a.y) where()",
		"select x from a": "1 edges() rest() where()",
		"select a.x from a join b on b.y = a.x and b.x > 1 and 1 = 1 join c on (a.x = c.x or b.x = 1) and c.y is null where not c.x = a.y and a.x = a.y and a.x = c.y": "3 scan0(a.x = a.y) scan1(b.x > 1) scan2(c.y is null) edges(0.0=1.1 0.0=2.1) rest(1 = 1; a.x = c.x or b.x = 1; not c.x = a.y) where()",
		"select a.x from a left join b on a.x = b.x and b.y = 1 and a.y = 1 and 1 = 2 and b.x < a.x where a.x = 3 and b.x = a.y and null":                              "1 scan0(a.x = 3) edges() rest(null) where(b.x = a.y) late1,2(0.0=1.0)(b.y = 1)(a.y = 1; 1 = 2; b.x < a.x)",
		"select a.x from a left join b on a.x = b.x join c on b.x = c.x and a.x = b.y and c.x = c.y semi join d on d.x = c.y where c.x = 1 and a.x = 2":                "1 scan0(a.x = 2) edges() rest() where(c.x = 1) late1,2(0.0=1.0)()() late2,1(1.0=2.0)(c.x = c.y)(a.x = b.y) late3,3(2.1=3.0)()()",
		"select a.x from a anti join b on b.x = a.x or b.y = 1": "1 edges() rest() where() late1,4()()(b.x = a.x or b.y = 1)",
	} {
		if got := show(norm.Of(ready(t, s))); got != want {
			t.Error(s, "|", got)
		}
	}
	if n := norm.Of(api.Query{}); show(n) != "0 edges() rest() where()" || len(n.Scan) != 0 {
		t.Error(show(n))
	}
	n := norm.Of(ready(t, "select a.x from a join b on 1 = 1 join c on 1 = 1 left join d on 1 = 1"))
	if len(n.Scan) != 3 || len(n.Late) != 1 {
		t.Error("as many lists as the core has tables", len(n.Scan))
	}
}

// P16.2: columns that no query has.
func TestOfOdd(t *testing.T) {
	q := api.Query{From: []api.From{{On: col(0, 0)}, {Join: 1, On: tree.Of(api.OpEq, col(0, 0), col(7, 1))}}, Where: tree.Of(api.OpEq, col(-1, 0), col(1, 0))}
	if got := show(norm.Of(q)); got != "2 edges() rest() where( = ;  = )" {
		t.Error(got)
	}
}

// P16.3
func TestColumn(t *testing.T) {
	for _, c := range [][3]int{{0, 0, 0}, {0, 15, 15}, {1, 0, 16}, {7, 15, 127}, {-1, 0, -1}, {8, 0, -1}, {0, -1, -1}, {0, 16, -1}, {1 << 60, 3, -1}, {3, -1 << 63, -1}} {
		if got := norm.Column(c[0], c[1]); got != c[2] {
			t.Error(c, got)
		}
	}
}

// P16.3
func TestClasses(t *testing.T) {
	n := api.Norm{Edges: []api.Edge{{A: 0, AC: 1, B: 2, BC: 3}, {A: 1, AC: 0, B: 2, BC: 3}, {A: 0, AC: 0, B: 8, BC: 0}, {A: 4, AC: 16, B: 5, BC: 0}, {A: 6, AC: 2, B: 7, BC: 2}}}
	c := norm.Classes(n)
	if c.Len() != 128 || c.Count() != 125 || !c.Same(1, 35) || !c.Same(16, 35) || c.Find(35) != 1 || !c.Same(98, 114) || c.Find(0) != 0 || c.Find(80) != 80 {
		t.Error(c.Count(), c.All())
	}
}

// P16.3
func TestAll(t *testing.T) {
	n := norm.Of(ready(t, "select a.x from a join b on a.x = b.y and b.x = 1 left join c on a.x = c.x where 1 = 1 and a.y = 2 and c.x = 3 and a.x < b.x"))
	want := []api.Expr{n.Scan[0][0], n.Scan[1][0], tree.Of(api.OpEq, col(0, 0), col(1, 1)), n.Rest[0], n.Rest[1], n.Where[0]}
	got := norm.All(n)
	if !slices.EqualFunc(got, want, tree.Same) {
		t.Error(texts(got))
	}
	got[0] = api.Expr{}
	if n.Scan[0][0].Op == 0 {
		t.Error("shared")
	}
	if len(norm.All(api.Norm{})) != 0 {
		t.Error("of none")
	}
}

// P16.4
func TestWholeCore(t *testing.T) {
	for seed := range 400 {
		d := sample.New(seed)
		db := sample.Tables(d, 5)
		q, e := deno.Ready(db, sample.Query(d, 1+d.To(4), sample.Joins(seed%2 == 0)))
		if e != api.OK {
			t.Fatal(e)
		}
		n := norm.Of(q)
		var l []api.Expr
		for _, f := range q.From[1:n.Core] {
			l = append(l, norm.Parts(f.On)...)
		}
		if len(norm.All(n)) != len(l)+len(norm.Parts(q.Where)) {
			t.Fatal("all parts, each once", print.Query(q))
		}
		for i, late := range n.Late {
			if len(late.Keys)+len(late.Scan)+len(late.Rest) != len(norm.Parts(q.From[n.Core+i].On)) {
				t.Error("all parts of late ones", print.Query(q))
			}
		}
		tables, _ := name.Tables(db, q.From)
		free := slices.Clone(q.From)
		for i := range n.Core {
			free[i].On = tree.Of(api.OpIsNull, tree.Val(val.Null()))
		}
		for _, env := range deno.Envs(tables, free) {
			want := eval.Holds(l, env) && (q.Where.Op == 0 || eval.Truth(q.Where, env) == api.True)
			if eval.Holds(norm.All(n), env) != want {
				t.Fatal(print.Query(q))
			}
		}
	}
}
