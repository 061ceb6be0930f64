package val_test

import (
	"strings"
	"testing"

	"trommel/api"
	"trommel/val"
)

// some holds values that are right, rising by Order.
func some() []api.Val {
	return []api.Val{
		val.Null(),
		val.Int(-1 << 63), val.Int(-256), val.Int(-1), val.Int(0), val.Int(1), val.Int(255), val.Int(256), val.Int(1<<63 - 1),
		val.Text(""), val.Text("\x00"), val.Text("a"), val.Text("a\x00"), val.Text("ab"), val.Text("b"), val.Text("\xff"),
	}
}

// wrong holds values that are not right.
func wrong() []api.Val {
	return []api.Val{
		{Kind: -1}, {Kind: 3}, {Kind: 4},
		{I: 1}, {S: "x"}, {I: 1, S: "x"},
		{Kind: api.KindInt, S: "x"}, {Kind: api.KindInt, I: 3, S: "x"},
		{Kind: api.KindText, I: 1}, {Kind: api.KindText, I: -1, S: "x"},
		{Kind: api.KindText, S: strings.Repeat("a", api.MaxText+1)},
	}
}

// P1.1
func TestRight(t *testing.T) {
	for _, v := range some() {
		if !val.Right(v) {
			t.Errorf("%v is right", v)
		}
	}
	for i, v := range wrong() {
		if val.Right(v) {
			t.Errorf("%d is not right", i)
		}
	}
	if !val.Right(api.Val{Kind: api.KindText, S: strings.Repeat("a", api.MaxText)}) {
		t.Error("a text of MaxText bytes is right")
	}
}

// P1.1
func TestMade(t *testing.T) {
	if val.Null() != (api.Val{}) {
		t.Error("Null")
	}
	if val.Int(-7) != (api.Val{Kind: api.KindInt, I: -7}) {
		t.Error("Int")
	}
	if val.Text("it's") != (api.Val{Kind: api.KindText, S: "it's"}) {
		t.Error("Text")
	}
	long := strings.Repeat("é", api.MaxText/2)
	if val.Text(long) != (api.Val{Kind: api.KindText, S: long}) {
		t.Error("the longest text")
	}
	if val.Text(long+"a") != val.Null() {
		t.Error("a text that is too long is null")
	}
}

// P1.1: by the Kind alone.
func TestIsNull(t *testing.T) {
	for _, v := range append(some(), wrong()...) {
		if val.IsNull(v) != (v.Kind == api.KindNull) {
			t.Error(v.Kind, v.I)
		}
	}
}

// P1.2
func TestOrder(t *testing.T) {
	l := some()
	for i, a := range l {
		for k, b := range l {
			want := sign(i - k)
			if val.Order(a, b) != want || val.Same(a, b) != (want == 0) {
				t.Error(a, b, val.Order(a, b))
			}
		}
	}
}

// P1.2: of values that are not right, too: Kind, then I, then S.
func TestOrderWrong(t *testing.T) {
	l := []api.Val{
		{Kind: -1, I: 5, S: "z"}, {I: -1, S: "z"}, {}, {S: "a"}, {S: "b"}, {I: 1},
		{Kind: 1, I: 2, S: "z"}, {Kind: 1, I: 3}, {Kind: 2, I: -1, S: "b"}, {Kind: 2, S: "a"}, {Kind: 2, I: 1}, {Kind: 3},
	}
	for i, a := range l {
		for k, b := range l {
			if val.Order(a, b) != sign(i-k) || val.Same(a, b) != (i == k) {
				t.Error(a, b, val.Order(a, b))
			}
		}
	}
}

// P1.2
func TestCmp(t *testing.T) {
	all := append(some(), wrong()...)
	for _, a := range all {
		for _, b := range all {
			n, ok := val.Cmp(a, b)
			want := a.Kind == b.Kind && (a.Kind == api.KindInt || a.Kind == api.KindText)
			if ok != want || !ok && n != 0 || ok && n != val.Order(a, b) {
				t.Error(a.Kind, a.I, b.Kind, b.I, n, ok)
			}
		}
	}
	if n, ok := val.Cmp(val.Int(2), val.Int(10)); n != -1 || !ok {
		t.Error(n, ok)
	}
	if n, ok := val.Cmp(val.Int(2), val.Null()); n != 0 || ok {
		t.Error(n, ok)
	}
}

// P1.3
func TestKey(t *testing.T) {
	for _, c := range []struct {
		v    api.Val
		want string
	}{
		{val.Null(), "n"},
		{api.Val{I: 4, S: "x"}, "n"},
		{val.Int(0), "i\x80\x00\x00\x00\x00\x00\x00\x00"},
		{val.Int(-1), "i\x7f\xff\xff\xff\xff\xff\xff\xff"},
		{val.Int(0x0102030405060708), "i\x81\x02\x03\x04\x05\x06\x07\x08"},
		{val.Int(-1 << 63), "i\x00\x00\x00\x00\x00\x00\x00\x00"},
		{api.Val{Kind: 1, I: 1, S: "x"}, "i\x80\x00\x00\x00\x00\x00\x00\x01"},
		{val.Text(""), "t"},
		{val.Text("n\x00é"), "tn\x00é"},
		{api.Val{Kind: 3, I: 1, S: "x"}, ""},
		{api.Val{Kind: -1}, ""},
	} {
		if got := val.Key(c.v); got != c.want {
			t.Errorf("%v: %q", c.v, got)
		}
	}
}

// P1.4
func TestKeyTellsApart(t *testing.T) {
	l := some()
	for _, a := range l {
		for _, b := range l {
			if (val.Key(a) == val.Key(b)) != val.Same(a, b) {
				t.Error(a, b)
			}
			if a.Kind == b.Kind && strings.Compare(val.Key(a), val.Key(b)) != val.Order(a, b) {
				t.Error(a, b)
			}
		}
	}
}

func sign(n int) int {
	return min(1, max(-1, n))
}
