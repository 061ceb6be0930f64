package rows_test

import (
	"testing"

	"trommel/api"
	"trommel/rows"
	"trommel/val"
)

func row(l ...int) []api.Val {
	out := []api.Val{}
	for _, n := range l {
		out = append(out, val.Int(n))
	}
	return out
}

// rising holds rows in their order.
func rising() [][]api.Val {
	return [][]api.Val{
		{},
		{val.Null()},
		{val.Null(), val.Null()},
		{val.Null(), val.Int(3)},
		{val.Int(-2)},
		{val.Int(1)},
		{val.Int(1), val.Int(0)},
		{val.Int(1), val.Text("a")},
		{val.Int(1), val.Text("a"), val.Null()},
		{val.Int(2)},
		{val.Text("")},
		{val.Text("a"), val.Int(9)},
		{val.Text("b")},
	}
}

// P4.1
func TestOrder(t *testing.T) {
	l := rising()
	for i, a := range l {
		for k, b := range l {
			want := min(1, max(-1, i-k))
			if rows.Order(a, b) != want || rows.Same(a, b) != (i == k) {
				t.Error(a, b, rows.Order(a, b), rows.Same(a, b))
			}
		}
	}
	if !rows.Same(nil, []api.Val{}) || rows.Order(nil, []api.Val{}) != 0 {
		t.Error("nil is as empty")
	}
	if rows.Same([]api.Val{{I: 1}}, []api.Val{{}}) {
		t.Error("values are the same in all fields")
	}
}

// P4.1, P4.4
func TestSort(t *testing.T) {
	l := rising()
	in := [][]api.Val{}
	for i := range 2 * len(l) {
		in = append(in, l[i*5%len(l)])
	}
	before := append([][]api.Val{}, in...)
	out := rows.Sort(in)
	if len(out) != len(in) {
		t.Fatal(len(out))
	}
	for i, r := range out {
		if !rows.Same(r, l[i/2]) {
			t.Error(i, r)
		}
	}
	for i, r := range in {
		if !rows.Same(r, before[i]) {
			t.Error("the list that was handed in is another one")
		}
	}
	if !rows.SameBag(in, out) || len(rows.Sort(nil)) != 0 {
		t.Error("the same bag")
	}
	out[0] = row(77)
	if rows.Count(in, row(77)) != 0 {
		t.Error("shared")
	}
}

// P4.1
func TestSameBag(t *testing.T) {
	for _, c := range []struct {
		a, b [][]api.Val
		want bool
	}{
		{nil, [][]api.Val{}, true},
		{[][]api.Val{row(1), row(2)}, [][]api.Val{row(2), row(1)}, true},
		{[][]api.Val{row(1), row(1)}, [][]api.Val{row(1)}, false},
		{[][]api.Val{row(1), row(1), row(2)}, [][]api.Val{row(1), row(2), row(2)}, false},
		{[][]api.Val{{}}, nil, false},
		{[][]api.Val{{}}, [][]api.Val{nil}, true},
		{[][]api.Val{{{Kind: 3}}}, [][]api.Val{{{Kind: 4}}}, false},
		{[][]api.Val{{{Kind: 1, S: "x"}}}, [][]api.Val{{{Kind: 1}}}, false},
	} {
		if rows.SameBag(c.a, c.b) != c.want || rows.SameBag(c.b, c.a) != c.want {
			t.Error(c.a, c.b)
		}
	}
}

// P4.1
func TestCount(t *testing.T) {
	l := [][]api.Val{row(1), row(1, 2), row(1), {}, {val.Null()}}
	if rows.Count(l, row(1)) != 2 || rows.Count(l, row(1, 2)) != 1 || rows.Count(l, row(2)) != 0 {
		t.Error("numbers")
	}
	if rows.Count(l, nil) != 1 || rows.Count(l, []api.Val{{}}) != 1 || rows.Count(nil, nil) != 0 {
		t.Error("empty ones")
	}
}

// P4.2
func TestWithout(t *testing.T) {
	l := [][]api.Val{row(0), row(1), row(2)}
	for i := -2; i < 6; i++ {
		want := [][]api.Val{}
		for k := range l {
			if k != i {
				want = append(want, l[k])
			}
		}
		got := rows.Without(l, i)
		if len(got) != len(want) {
			t.Fatal(i, got)
		}
		for k := range want {
			if !rows.Same(got[k], want[k]) {
				t.Error(i, got)
			}
		}
		got = append(got, row(9))
		got[0] = row(8)
		for k := range l {
			if !rows.Same(l[k], row(k)) {
				t.Fatal("shared", i)
			}
		}
	}
	if len(rows.Without(nil, 0)) != 0 {
		t.Error("of none")
	}
}

// P4.2
func TestJoin(t *testing.T) {
	a := append(make([]api.Val, 0, 8), row(1, 2)...)
	got := rows.Join(a, nil, row(3), []api.Val{val.Null()})
	if !rows.Same(got, []api.Val{val.Int(1), val.Int(2), val.Int(3), val.Null()}) {
		t.Error(got)
	}
	if len(rows.Join()) != 0 || len(rows.Join(nil, nil)) != 0 {
		t.Error("of none")
	}
	one := rows.Join(a)
	one[0] = val.Int(7)
	if a[0] != val.Int(1) || a[:3][2] != (api.Val{}) {
		t.Error("shared")
	}
}

// P4.2
func TestNulls(t *testing.T) {
	for n, want := range map[int]int{-1 << 63: 0, -1: 0, 0: 0, 3: 3, 1 << 16: 1 << 16, 1<<16 + 1: 1 << 16, 1 << 62: 1 << 16} {
		got := rows.Nulls(n)
		if len(got) != want {
			t.Error(n, len(got))
		}
		for _, v := range got {
			if v != val.Null() {
				t.Fatal(v)
			}
		}
	}
}

// P4.2
func TestPick(t *testing.T) {
	r := []api.Val{val.Int(5), val.Text("a"), {Kind: 3}}
	got := rows.Pick(r, []int{1, -1, 0, 3, 2, 1, 1 << 40})
	want := []api.Val{val.Text("a"), val.Null(), val.Int(5), val.Null(), {Kind: 3}, val.Text("a"), val.Null()}
	if !rows.Same(got, want) {
		t.Error(got)
	}
	if len(rows.Pick(r, nil)) != 0 {
		t.Error("of no places")
	}
	many := make([]int, 1<<16+5)
	if len(rows.Pick(r, many)) != len(many) {
		t.Error("of many places")
	}
}

// P4.3
func TestKey(t *testing.T) {
	for _, c := range []struct {
		r    []api.Val
		want string
	}{
		{nil, ""},
		{[]api.Val{val.Null(), val.Text("a")}, "1:n2:ta"},
		{[]api.Val{val.Int(1)}, "9:i\x80\x00\x00\x00\x00\x00\x00\x01"},
		{[]api.Val{val.Text("0123456789"), val.Text("")}, "11:t01234567891:t"},
		{[]api.Val{{Kind: 3}, val.Null()}, "0:1:n"},
	} {
		if got := rows.Key(c.r); got != c.want {
			t.Errorf("%v: %q", c.r, got)
		}
	}
}

// P4.4
func TestKeysTellRowsApart(t *testing.T) {
	l := append(rising(), []api.Val{val.Text("a1:n")}, []api.Val{val.Text("a"), val.Null()}, []api.Val{val.Text("a"), val.Text("")})
	for i, a := range l {
		for k, b := range l {
			if (rows.Key(a) == rows.Key(b)) != (i == k) {
				t.Error(a, b)
			}
		}
	}
}

// P4.4
func TestSortAnyOrder(t *testing.T) {
	l := rising()
	for turn := range len(l) {
		in := append(append([][]api.Val{}, l[turn:]...), l[:turn]...)
		for i, r := range rows.Sort(in) {
			if !rows.Same(r, l[i]) {
				t.Error(turn, i, r)
			}
		}
	}
}
