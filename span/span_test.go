package span_test

import (
	"slices"
	"testing"

	"trommel/api"
	"trommel/span"
	"trommel/val"
)

func some() []api.Val {
	return []api.Val{val.Int(3), val.Null(), val.Int(7), val.Text("b"), {Kind: -4, I: 2}, val.Int(-2), val.Text("a"), {I: 5, S: "x"}, {Kind: 3}}
}

// same: do both tell the same?
func same(t *testing.T, what any, s span.Span, l []api.Val) {
	t.Helper()
	var whole []api.Val
	nulls := false
	for _, v := range l {
		if val.IsNull(v) {
			nulls = true
		} else {
			whole = append(whole, v)
		}
	}
	slices.SortFunc(whole, val.Order)
	low, ok := span.Low(s)
	high, also := span.High(s)
	if span.Count(s) != len(l) || span.Nulls(s) != nulls || ok != (len(whole) > 0) || also != ok {
		t.Error(what, span.Count(s), span.Nulls(s), ok, also)
	}
	if ok && (low != whole[0] || high != whole[len(whole)-1]) || !ok && (low != api.Val{} || high != api.Val{}) {
		t.Error(what, low, high)
	}
	for _, v := range append(some(), val.Int(5), val.Int(8), val.Text("ab"), api.Val{Kind: 9}, api.Val{Kind: -9}) {
		want := nulls
		if !val.IsNull(v) {
			want = ok && val.Order(whole[0], v) <= 0 && val.Order(v, whole[len(whole)-1]) <= 0
		}
		if span.Has(s, v) != want {
			t.Error(what, v, span.Has(s, v))
		}
	}
}

// P19.1, P19.2
func TestExample(t *testing.T) {
	s := span.Add(span.Span{}, val.Int(3), val.Null(), val.Int(7))
	if !span.Has(s, val.Int(5)) || !span.Has(s, val.Int(3)) || !span.Has(s, val.Int(7)) || !span.Has(s, val.Null()) || span.Has(s, val.Int(8)) || span.Has(s, val.Int(2)) || span.Has(s, val.Text("")) {
		t.Error("Has")
	}
	low, ok := span.Low(s)
	high, also := span.High(s)
	if low != val.Int(3) || high != val.Int(7) || !ok || !also || span.Count(s) != 3 || !span.Nulls(s) {
		t.Error(low, high)
	}
}

// P19.1, P19.2
func TestAdd(t *testing.T) {
	l := some()
	for i := range l {
		for k := i; k <= len(l); k++ {
			same(t, l[i:k], span.Add(span.Span{}, l[i:k]...), l[i:k])
		}
	}
	same(t, "nulls alone", span.Add(span.Span{}, val.Null(), val.Null()), []api.Val{{}, {}})
	same(t, "none", span.Add(span.Span{}), nil)
	same(t, "below 0", span.Add(span.Span{}, val.Int(-5)), []api.Val{val.Int(-5)})
}

// P19.1, P19.3
func TestUnion(t *testing.T) {
	low := []api.Val{{Kind: -4, I: 2}, {Kind: -3}}
	same(t, "nulls behind what is below them", span.Union(span.Add(span.Span{}, low...), span.Add(span.Span{}, val.Null())), append(low, val.Null()))
	same(t, "nulls ahead", span.Union(span.Add(span.Span{}, val.Null()), span.Add(span.Span{}, low...)), append(low, val.Null()))
	l := some()
	for end := range len(l) + 1 {
		for at := range end + 1 {
			a, b := span.Add(span.Span{}, l[:at]...), span.Add(span.Span{}, l[at:end]...)
			same(t, at, span.Union(a, b), l[:end])
			same(t, at, span.Union(b, a), l[:end])
			same(t, at, a, l[:at])
		}
	}
}

// P19.3
func TestAddedIsHad(t *testing.T) {
	l := some()
	for turn := range l {
		in := append(slices.Clone(l[turn:]), l[:turn]...)
		s := span.Span{}
		for i, v := range in {
			s = span.Add(s, v)
			for _, w := range in[:i+1] {
				if !span.Has(s, w) {
					t.Error(w)
				}
			}
		}
		same(t, turn, s, l)
	}
}
