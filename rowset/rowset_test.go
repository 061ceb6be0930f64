package rowset_test

import (
	"testing"

	"trommel/api"
	"trommel/rowset"
	"trommel/val"
)

func TestSet(t *testing.T) {
	s := rowset.New()
	l := [][]api.Val{nil, {val.Null()}, {val.Int(1)}, {val.Int(1), val.Null()}, {{Kind: 3}}, {{Kind: 4}}, {{Kind: 1, I: 1, S: "x"}}}
	for i, r := range l {
		if s.Has(r) || !s.Put(r) || s.Put(r) || !s.Has(r) {
			t.Error(i)
		}
		for k, x := range l {
			if s.Has(x) != (k <= i) {
				t.Error(i, k)
			}
		}
	}
}
