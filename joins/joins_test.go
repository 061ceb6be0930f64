package joins_test

import (
	"testing"

	"trommel/api"
	"trommel/joins"
	"trommel/val"
)

func TestWith(t *testing.T) {
	r := []api.Val{val.Int(1)}
	for place := -1; place < 4; place++ {
		in := make([][]api.Val, 3)
		out := joins.With(in, place, r)
		for i := range out {
			if (len(out[i]) == 1) != (i == place) || in[i] != nil {
				t.Error(place, i)
			}
		}
		if len(out) != 3 {
			t.Error(place, len(out))
		}
	}
}

func TestJoins(t *testing.T) {
	for join, want := range map[int][3]bool{ // asks; alone with, and without a match
		api.JoinFirst: {}, api.JoinInner: {}, 9: {}, api.JoinLeft: {false, false, true}, api.JoinSemi: {true, true, false}, api.JoinAnti: {true, false, true},
	} {
		if got := [3]bool{joins.Asks(join), joins.Alone(join, true), joins.Alone(join, false)}; got != want {
			t.Error(join, got)
		}
	}
}
