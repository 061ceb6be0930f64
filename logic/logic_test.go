package logic_test

import (
	"testing"

	"trommel/api"
	"trommel/logic"
	"trommel/val"
)

const (
	no   = api.False
	yes  = api.True
	open = api.Unknown
)

// truths holds the three, and some that are none.
func truths() []int { return []int{no, yes, open, -1, 3, 1 << 40} }

// P2.1
func TestRight(t *testing.T) {
	for i, a := range truths() {
		if logic.Right(a) != (i < 3) {
			t.Error(a)
		}
	}
}

// P2.1
func TestNot(t *testing.T) {
	want := []int{yes, no, open, open, open, open}
	for i, a := range truths() {
		if logic.Not(a) != want[i] {
			t.Error(a, logic.Not(a))
		}
	}
}

// P2.1
func TestOfIs(t *testing.T) {
	if logic.Of(true) != yes || logic.Of(false) != no {
		t.Error("Of")
	}
	for _, a := range truths() {
		if logic.Is(a) != (a == yes) {
			t.Error("Is", a)
		}
	}
}

// known takes what is no truth as Unknown.
func known(a int) int {
	if a == no || a == yes {
		return a
	}
	return open
}

// P2.1: And is the least, and Or the greatest, of False, Unknown, True.
func TestAndOr(t *testing.T) {
	rank := map[int]int{no: 0, open: 1, yes: 2}
	if logic.And() != yes || logic.Or() != no {
		t.Error("of none")
	}
	for _, a := range truths() {
		if logic.And(a) != known(a) || logic.Or(a) != known(a) {
			t.Error("of one", a)
		}
		for _, b := range truths() {
			for _, c := range truths() {
				l := []int{rank[known(a)], rank[known(b)], rank[known(c)]}
				and, or := logic.And(a, b, c), logic.Or(a, b, c)
				if !logic.Right(and) || rank[and] != min(l[0], l[1], l[2]) {
					t.Error("And", a, b, c, and)
				}
				if !logic.Right(or) || rank[or] != max(l[0], l[1], l[2]) {
					t.Error("Or", a, b, c, or)
				}
			}
		}
	}
}

// P2.2
func TestEqLess(t *testing.T) {
	for _, c := range []struct {
		a, b     api.Val
		eq, less int
	}{
		{val.Int(1), val.Int(1), yes, no},
		{val.Int(-1), val.Int(1), no, yes},
		{val.Int(2), val.Int(1), no, no},
		{val.Text("a"), val.Text("a"), yes, no},
		{val.Text("a"), val.Text("b"), no, yes},
		{val.Text("b"), val.Text("a"), no, no},
		{val.Null(), val.Null(), open, open},
		{val.Null(), val.Int(1), open, open},
		{val.Text("a"), val.Null(), open, open},
		{val.Int(1), val.Text("1"), open, open},
		{api.Val{Kind: 3}, api.Val{Kind: 3}, open, open},
		{api.Val{Kind: 1, S: "a"}, api.Val{Kind: 1, S: "b"}, no, yes},
	} {
		if logic.Eq(c.a, c.b) != c.eq || logic.Less(c.a, c.b) != c.less {
			t.Error(c.a, c.b, logic.Eq(c.a, c.b), logic.Less(c.a, c.b))
		}
	}
}

// P2.2
func TestTest(t *testing.T) {
	one, two := val.Int(1), val.Int(2)
	want := map[int][3]int{ // of 1 and 2, 1 and 1, 2 and 1
		api.OpEq: {no, yes, no},
		api.OpNe: {yes, no, yes},
		api.OpLt: {yes, no, no},
		api.OpLe: {yes, yes, no},
		api.OpGt: {no, no, yes},
		api.OpGe: {no, yes, yes},
	}
	for op := -1; op <= api.OpMax+1; op++ {
		w, ok := want[op]
		if !ok {
			w = [3]int{open, open, open}
		}
		got := [3]int{logic.Test(op, one, two), logic.Test(op, one, one), logic.Test(op, two, one)}
		if got != w {
			t.Error(op, got)
		}
		for _, b := range []api.Val{val.Null(), val.Text("1"), {Kind: 3}} {
			if logic.Test(op, one, b) != open || logic.Test(op, b, one) != open {
				t.Error(op, b)
			}
		}
	}
}

// P2.3
func TestAsOfTwoValues(t *testing.T) {
	for _, a := range []bool{false, true} {
		if logic.Not(logic.Of(a)) != logic.Of(!a) {
			t.Error(a)
		}
		for _, b := range []bool{false, true} {
			if logic.And(logic.Of(a), logic.Of(b)) != logic.Of(a && b) || logic.Or(logic.Of(a), logic.Of(b)) != logic.Of(a || b) {
				t.Error(a, b)
			}
		}
	}
}

// P2.3
func TestNotOfAnd(t *testing.T) {
	for _, a := range truths() {
		for _, b := range truths() {
			if logic.Not(logic.And(a, b)) != logic.Or(logic.Not(a), logic.Not(b)) {
				t.Error(a, b)
			}
			if logic.And(a, b) != logic.And(b, a) || logic.Or(a, b) != logic.Or(b, a) {
				t.Error("order", a, b)
			}
		}
	}
}

// Lists that are handed in stay.
func TestKept(t *testing.T) {
	l := []int{yes, 7, no}
	logic.And(l...)
	logic.Or(l...)
	if l[0] != yes || l[1] != 7 || l[2] != no {
		t.Error(l)
	}
}
