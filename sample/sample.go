// Package sample makes tables and queries for tests: any number of them, from a seed.
package sample

import (
	"slices"
	"strconv"
	"strings"

	"trommel/api"
	"trommel/rows"
	"trommel/val"
)

// Dice throws numbers, the same ones for the same seed.
type Dice struct{ state uint64 }

// New: for a seed.
func New(seed int) *Dice {
	return &Dice{state: uint64(seed)*0x9e3779b97f4a7c15 + 1}
}

// To: a number from 0 to n - 1; 0, if n is below 1.
func (d *Dice) To(n int) int {
	d.state ^= d.state << 13
	d.state ^= d.state >> 7
	d.state ^= d.state << 17
	if n < 1 {
		return 0
	}
	return int((d.state >> 20) % uint64(n))
}

// One: one of these; "" of none.
func (d *Dice) One(l ...string) string {
	if len(l) == 0 {
		return ""
	}
	return l[d.To(len(l))]
}

// Tables: a, b, c, each with two columns of numbers, x and y, and one of texts, s, and no more than most rows each.
func Tables(d *Dice, most int) []api.Table {
	var out []api.Table
	for i := range 3 {
		t := api.Table{
			Name: "abc"[i : i+1],
			Cols: []api.Column{{Name: "x", Kind: api.KindInt}, {Name: "y", Kind: api.KindInt}, {Name: "s", Kind: api.KindText}},
		}
		for range d.To(most + 1) {
			t.Rows = append(t.Rows, []api.Val{number(d), number(d), text(d)})
		}
		out = append(out, t)
	}
	return out
}

func number(d *Dice) api.Val {
	switch d.To(16) {
	case 0, 1:
		return val.Null()
	case 2:
		return val.Int(1 << 62)
	}
	return val.Int(d.To(5) - 1)
}

func text(d *Dice) api.Val {
	if d.To(6) == 0 {
		return val.Null()
	}
	return val.Text(d.One("", "p", "q", "it's"))
}

// Joins: words for how tables are joined; inner alone, or all of them.
func Joins(all bool) []string {
	if all {
		return []string{"join", "join", "left join", "semi join", "anti join"}
	}
	return []string{"join"}
}

// Query: a text that may be, of so many tables, each joined by one of these words. Its tables are named t0, t1, and so on.
func Query(d *Dice, tables int, joins []string) string {
	var b strings.Builder
	b.WriteString(d.One("a", "b", "c") + " t0")
	seen := []string{"t0"}
	for i := 1; i < tables; i++ {
		t := "t" + strconv.Itoa(i)
		join := d.One(joins...)
		b.WriteString(" " + join + " " + d.One("a", "b", "c") + " " + t + " on " + on(d, seen, t))
		if join != "semi join" && join != "anti join" {
			seen = append(seen, t)
		}
	}
	if d.To(2) == 0 {
		b.WriteString(" where " + condition(d, seen, 2))
	}
	return items(d, seen, b.String())
}

// on: mostly a column of the new table that is the same as one of another table, and at times more.
func on(d *Dice, seen []string, t string) string {
	equal := column(d, seen, "x", "y") + " = " + t + "." + d.One("x", "y")
	switch d.To(6) {
	case 0:
		return condition(d, append([]string{t}, seen...), 1)
	case 1:
		return equal + " and " + condition(d, append([]string{t}, seen...), 1)
	case 2:
		return t + "." + d.One("x", "y") + " = " + column(d, seen, "x", "y") + " and " + t + ".s = " + column(d, seen, "s")
	}
	return equal
}

func column(d *Dice, seen []string, names ...string) string {
	return d.One(seen...) + "." + d.One(names...)
}

// condition: of signs, and words between them that stand in one another no deeper than depth.
func condition(d *Dice, seen []string, depth int) string {
	if depth == 0 || d.To(3) == 0 {
		return test(d, seen)
	}
	switch d.To(4) {
	case 0:
		return "not (" + condition(d, seen, depth-1) + ")"
	case 1:
		return "(" + condition(d, seen, depth-1) + " or " + condition(d, seen, depth-1) + ")"
	}
	return condition(d, seen, depth-1) + " and " + condition(d, seen, depth-1)
}

func test(d *Dice, seen []string) string {
	sign := " " + d.One("=", "=", "<>", "<", "<=", ">", ">=") + " "
	switch d.To(6) {
	case 0:
		return column(d, seen, "x", "y", "s") + " is " + d.One("null", "not null")
	case 1:
		return column(d, seen, "s") + sign + d.One("'p'", "'it''s'", column(d, seen, "s"))
	case 2:
		return strconv.Itoa(d.To(4)) + sign + column(d, seen, "x", "y")
	case 3:
		return column(d, seen, "x", "y") + sign + column(d, seen, "x", "y")
	}
	return column(d, seen, "x", "y") + sign + d.One("0", "1", "2", "3", "null")
}

// items: the whole query, with or without groups, of what stands behind "from".
func items(d *Dice, seen []string, from string) string {
	x, y, s := column(d, seen, "x", "y"), column(d, seen, "x", "y"), column(d, seen, "s")
	switch d.To(5) {
	case 0:
		return "select " + x + ", count(*), count(" + y + "), min(" + s + ") from " + from + " group by " + x
	case 1:
		return "select count(*), sum(" + x + "), max(" + s + "), 7 from " + from
	case 2:
		return "select " + x + " + " + y + ", " + s + " from " + from
	case 3:
		return "select " + s + ", sum(" + x + " * " + y + ") from " + from + " group by " + s + ", " + x
	}
	return "select " + x + ", " + s + ", " + y + " from " + from
}

// Order: the numbers from 0 to n - 1, in any order.
func Order(d *Dice, n int) []int {
	var out []int
	for i := range n {
		out = slices.Insert(out, d.To(i+1), i)
	}
	return out
}

// Row: a row of numbers, texts, values as they are, and null for all else.
func Row(l ...any) []api.Val {
	out := []api.Val{}
	for _, x := range l {
		switch x := x.(type) {
		case int:
			out = append(out, val.Int(x))
		case string:
			out = append(out, val.Text(x))
		case api.Val:
			out = append(out, x)
		default:
			out = append(out, val.Null())
		}
	}
	return out
}

// SameEnvs: are these the same environments, in order?
func SameEnvs(a, b [][][]api.Val) bool {
	return slices.EqualFunc(a, b, func(x, y [][]api.Val) bool { return slices.EqualFunc(x, y, rows.Same) })
}
