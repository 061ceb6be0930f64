package parse_test

import (
	"strconv"
	"strings"
	"testing"

	"trommel/api"
	"trommel/parse"
	"trommel/token"
	"trommel/tree"
)

// show writes a tree with all its parentheses: (op part part).
func show(e api.Expr) string {
	switch e.Op {
	case 0:
		return "none"
	case api.OpCol:
		return e.Tab + "." + e.Name
	case api.OpVal:
		switch e.Val.Kind {
		case api.KindInt:
			return strconv.Itoa(e.Val.I)
		case api.KindText:
			return strconv.Quote(e.Val.S)
		}
		return "null"
	}
	names := []string{"", "=", "<>", "<", "<=", ">", ">=", "+", "-", "*", "and", "or", "not", "isnull", "notnull", "", "", "rows", "count", "sum", "min", "max"}
	out := "(" + names[e.Op]
	for _, p := range e.L {
		out += " " + show(p)
	}
	return out + ")"
}

func showQuery(q api.Query) string {
	l := []string{}
	for _, e := range q.Items {
		l = append(l, show(e))
	}
	for _, f := range q.From {
		l = append(l, "|"+strconv.Itoa(f.Join)+" "+f.Table+" "+f.As+" "+show(f.On))
	}
	l = append(l, "where "+show(q.Where))
	for _, e := range q.Group {
		l = append(l, "by "+show(e))
	}
	return strings.Join(l, " ")
}

// P9.2
func TestExpr(t *testing.T) {
	for s, want := range map[string]string{
		"a.x + 1 * 2 < y":            "(< (+ a.x (* 1 2)) .y)",
		"x":                          ".x",
		"((x))":                      ".x",
		"a . x":                      "a.x",
		"007":                        "7",
		"'it''s'":                    `"it's"`,
		"null":                       "null",
		"1 + 2 - 3 + 4":              "(+ (- (+ 1 2) 3) 4)",
		"1 - (2 - 3)":                "(- 1 (- 2 3))",
		"1 * 2 * 3":                  "(* (* 1 2) 3)",
		"(1 + 2) * 3":                "(* (+ 1 2) 3)",
		"a or b or c":                "(or (or .a .b) .c)",
		"a and b and c":              "(and (and .a .b) .c)",
		"a or b and c or d":          "(or (or .a (and .b .c)) .d)",
		"(a or b) and c":             "(and (or .a .b) .c)",
		"not a and b":                "(and (not .a) .b)",
		"not (a and b)":              "(not (and .a .b))",
		"not not a = 1":              "(not (not (= .a 1)))",
		"a = 1 and not b <> 2":       "(and (= .a 1) (not (<> .b 2)))",
		"a < 1 or a <= 2 or a > 3":   "(or (or (< .a 1) (<= .a 2)) (> .a 3))",
		"a >= 1":                     "(>= .a 1)",
		"a is null":                  "(isnull .a)",
		"a + 1 is not null":          "(notnull (+ .a 1))",
		"not a is not null":          "(not (notnull .a))",
		"(a = b) = c":                "(= (= .a .b) .c)",
		"(a is null) is null":        "(isnull (isnull .a))",
		"null = null and null":       "(and (= null null) null)",
		"a.x=b.y":                    "(= a.x b.y)",
		"9223372036854775807 * zz_9": "(* 9223372036854775807 .zz_9)",
	} {
		e, err := parse.Expr(s)
		if err != api.OK || show(e) != want {
			t.Error(s, show(e), err)
		}
	}
}

// P9.1
func TestQuery(t *testing.T) {
	for s, want := range map[string]string{
		"select x from t":              ".x |0 t  none where none",
		"select x from t as u":         ".x |0 t u none where none",
		"select x from t u":            ".x |0 t u none where none",
		"select a.x , 1+2, 'q' from a": `a.x (+ 1 2) "q" |0 a  none where none`,
		"select count(*), count(x), sum(x+1), min(x), max(x) from t":                                "(rows) (count .x) (sum (+ .x 1)) (min .x) (max .x) |0 t  none where none",
		"select x from a join b on a.x = b.x":                                                       ".x |0 a  none |1 b  (= a.x b.x) where none",
		"select x from a left join b c on x semi join d on y anti join e as f on z join g on 1 = 1": ".x |0 a  none |2 b c .x |3 d  .y |4 e f .z |1 g  (= 1 1) where none",
		"select x from a where x = 1 or y":                                                          ".x |0 a  none where (or (= .x 1) .y)",
		"select x from a where x group by x, a.y":                                                   ".x |0 a  none where .x by .x by a.y",
		"select 'count', 'max' from t":                                                              `"count" "max" |0 t  none where none`,
		"select count(*) from a group by y":                                                         "(rows) |0 a  none where none by .y",
		"select a = 1 and b from a":                                                                 "(and (= .a 1) .b) |0 a  none where none",
	} {
		q, err := parse.Query(s)
		if err != api.OK || showQuery(q) != want {
			t.Error(s, showQuery(q), err)
		}
	}
}

// wrong: zero beside the error.
func wrong(t *testing.T, s string, want api.Errno) {
	t.Helper()
	q, err := parse.Query(s)
	if err != want || !tree.SameQuery(q, api.Query{}) {
		t.Errorf("%.60s: %d %v", s, err, showQuery(q))
	}
}

// P9.1: no queries.
func TestSyntax(t *testing.T) {
	for _, s := range []string{
		"", "x", "select", "select from t", "select x", "select x t", "select x from", "select x from 1", "select x, from t",
		"select x from t,", "select x from t, u", "select x from t as", "select x from t as 1", "select x from t u v", "select x from join",
		"select x from a join b", "select x from a join on x", "select x from a join b on", "select x from a left b on x",
		"select x from a inner c join b on x", "select x from a semi anti join b on x", "select x from a join b c d on x",
		"select x from t where", "select x from t group", "select x from t group by", "select x from t group by x,", "select x from t group x",
		"select x from t group by 1", "select x from t group by x + 1", "select x from t group by x where y", "select x from t where x where y",
		"select count() from t", "select count from t", "select count * from t", "select sum(*) from t", "select count(*) + 1 from t",
		"select 1 + count(*) from t", "select (count(*)) from t", "select count(count(*)) from t", "select sum(x from t", "select count(* from t",
		"select min(*) from t", "select max() from t", "select count(x, y) from t",
		"select x from t where count(*) = 1", "select x from t;", "select x from t )", "select * from t", "select x as y from t",
		"select x from t order by x", "select x from t where x = 1 = 2", "select x from t where x < y < z", "select x from t where x is 1",
		"select x from t where x is not", "select x from t where x is null is null", "select x from t where (x", "select x from t where x)",
		"select x from t where ()", "select x from t where not", "select x from t where x and", "select x from t where or x",
		"select -1 from t", "select x from t where x = -1", "select + from t", "select 1 2 from t", "select a.b.c from t", "select a. from t",
		"select .a from t", "select 'sum'(x) from t", "select x from t where x '=' y", "select x from t where x 'is' null", "select x from a 'join' b on x", "select a.1 from t", "select 'a' 'b' from t", "select x from t where x not = 1", "select x from t where 1 not null",
		"select x from t where x !", "SELECT x from t", "select select from t", "select x from t where x = not y",
	} {
		wrong(t, s, api.ErrSyntax)
	}
}

func times(n int, s, between string) string {
	return strings.TrimSuffix(strings.Repeat(s+between, n), between)
}

func joined(n int) string {
	return "select x from t" + strings.Repeat(" join t on x", n-1)
}

// P9.1: the limits, each itself allowed.
func TestLimits(t *testing.T) {
	deep := func(n int, s string) string {
		return "select x from t where " + strings.Repeat(s, n)
	}
	for _, s := range []string{
		"select " + times(16, "x", ",") + " from t",
		joined(8),
		"select x from t group by " + times(8, "x", ","),
		deep(50, "(") + "x" + times(50, ")", ""),
		deep(50, "not ") + "x",
		deep(25, "not (") + "x" + times(25, ")", "") + " and " + times(25, "not (", "") + "x" + times(25, ")", ""),
		"select sum(" + times(50, "(", "") + "x" + times(50, ")", "") + ") from t",
		deep(60, "(x) and ") + "not y",
		deep(60, "not x and ") + "x is not null",
	} {
		if _, e := parse.Query(s); e != api.OK {
			t.Errorf("%.60s: %d", s, e)
		}
	}
	for s, want := range map[string]api.Errno{
		"select " + times(17, "x", ",") + " from t":    api.ErrLimit,
		"select " + times(17, "x", ",") + " !":         api.ErrSyntax,
		"select " + times(17, "x", ",") + " 1":         api.ErrLimit,
		"select " + times(16, "x", ",") + ", x + from": api.ErrSyntax,
		"select " + times(16, "x", ",") + ", from":     api.ErrSyntax,
		"select " + times(16, "x", ",") + " 1, x":      api.ErrSyntax,
		joined(9):                     api.ErrLimit,
		joined(8) + " join t as on x": api.ErrSyntax,
		joined(8) + " left t":         api.ErrSyntax,
		joined(8) + " join 1":         api.ErrSyntax,
		"select x from t group by " + times(9, "x", ","):         api.ErrLimit,
		"select x from t group by " + times(9, "x", ",") + ".":   api.ErrSyntax,
		"select x from t group by " + times(8, "x", ",") + ", 1": api.ErrSyntax,
		deep(51, "("):            api.ErrLimit,
		deep(51, "not "):         api.ErrLimit,
		deep(50, "not ") + "( )": api.ErrLimit,
		deep(50, "(") + "not":    api.ErrLimit,
		deep(50, "("):            api.ErrSyntax,
		deep(50, "(") + ")":      api.ErrSyntax,
		deep(25, "not (") + "not x" + times(25, ")", ""):                           api.ErrLimit,
		"select " + times(51, "(", "") + times(51, "'a' 'b' ", ""):                 api.ErrLimit,
		"select " + times(16, "x", ",") + "," + times(51, "(", ""):                 api.ErrLimit,
		"select sum(" + times(51, "(", "") + "x" + times(51, ")", "") + ") from t": api.ErrLimit,
		times(1000, "x", " "): api.ErrLimit,
		times(999, "x", " "):  api.ErrSyntax,
		"select x from t where x = '" + times(1<<16+1, "a", "") + "'": api.ErrLimit,
		"x '": api.ErrSyntax,
	} {
		wrong(t, s, want)
	}
}

// P9.2
func TestExprWrong(t *testing.T) {
	for s, want := range map[string]api.Errno{
		"": api.ErrSyntax, "a b": api.ErrSyntax, "a from": api.ErrSyntax, "count(*)": api.ErrSyntax, "select": api.ErrSyntax,
		"a,": api.ErrSyntax, "(a": api.ErrSyntax, "!": api.ErrSyntax, times(51, "(", ""): api.ErrLimit, times(1000, "1", "+"): api.ErrLimit,
	} {
		e, err := parse.Expr(s)
		if err != want || !tree.Same(e, api.Expr{}) {
			t.Errorf("%.40s %d %v", s, err, e)
		}
	}
}

// P9.2
func TestJoin(t *testing.T) {
	for w, want := range map[string]int{"join": 1, "left": 2, "semi": 3, "anti": 4, "": 0, "inner": 0, "select": 0, "Join": 0, "left join": 0} {
		if parse.Join(w) != want {
			t.Error(w, parse.Join(w))
		}
	}
}

func nodes(q api.Query) int {
	n := 0
	for _, e := range append(append([]api.Expr{}, q.Items...), q.Group...) {
		n += tree.Nodes(e)
	}
	for _, f := range q.From {
		if f.On.Op != 0 {
			n += tree.Nodes(f.On)
		}
	}
	if q.Where.Op != 0 {
		n += tree.Nodes(q.Where)
	}
	return n
}

// P9.3: each row of tokens is a query, or one error.
func TestAnyTokens(t *testing.T) {
	parts := strings.Fields("select from join left on where group by and or not is null count sum ( ) , . * + = < 1 'a' a b x t")
	good := strings.Fields("select a . x , count ( b ) from t left join a b on not a = 1 where x is not null and ( a < 1 or b ) group by x")
	r := uint32(5)
	for range 3000 {
		l := append([]string{}, good...)
		for range int(r>>9) % 4 {
			r = r*1664525 + 1013904223
			l[int(r>>8)%len(l)] = parts[int(r>>16)%len(parts)]
		}
		r = r*1664525 + 1013904223
		s := strings.Join(l, " ")
		q, e := parse.Query(s)
		toks, _ := token.All(s)
		if e == api.OK && nodes(q) > len(toks) {
			t.Error(s)
		}
		if e != api.OK && (e != api.ErrSyntax || !tree.SameQuery(q, api.Query{})) {
			t.Error(s, e)
		}
	}
}
