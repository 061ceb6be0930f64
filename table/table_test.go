package table_test

import (
	"math"
	"slices"
	"testing"

	"trommel/api"
	"trommel/hash"
	"trommel/rows"
	"trommel/sample"
	"trommel/semi"
	"trommel/sift"
	"trommel/table"
)

// v makes a row of numbers, texts, and nil.
var v = sample.Row

func same(a, b [][]api.Val) bool { return slices.EqualFunc(a, b, rows.Same) }

// P34.1, P34.2
func TestExample(t *testing.T) {
	tab := table.New(7, 3)
	if tab.Put(v(1), v("a")) != api.OK || tab.Put(v(nil), v("b")) != api.OK || tab.Put(v(1), v("c")) != api.OK || tab.Put(v(2), v("d")) != api.OK {
		t.Error("Put")
	}
	if got, e := tab.Find(v(1)); len(got) != 0 || e != api.ErrState || tab.Sealed() {
		t.Error("nothing is found ahead of being sealed", got, e)
	}
	if tab.Seal() != api.OK || tab.Seal() != api.ErrState || !tab.Sealed() {
		t.Error("Seal")
	}
	if tab.Put(v(1), v("e")) != api.ErrState || tab.Len() != 4 {
		t.Error("nothing is put behind that")
	}
	for _, c := range []struct {
		key  []api.Val
		want [][]api.Val
	}{
		{v(1), [][]api.Val{v("a"), v("c")}}, {v(2), [][]api.Val{v("d")}}, {v(nil), nil}, {v(3), nil}, {v("1"), nil}, {v(1, 1), nil}, {nil, nil},
	} {
		if got, e := tab.Find(c.key); !same(got, c.want) || e != api.OK {
			t.Error(c.key, got, e)
		}
	}
	if !same(tab.Keys(), [][]api.Val{v(1), v(1), v(2)}) {
		t.Error(tab.Keys())
	}
}

// P34.1 to P34.3
func TestNil(t *testing.T) {
	var tab *table.Table
	if tab.Put(v(1), v(1)) != api.ErrNil || tab.Seal() != api.ErrNil || tab.Len() != 0 || tab.Sealed() || len(tab.Keys()) != 0 || tab.Longest() != 0 {
		t.Error("nil")
	}
	if got, e := tab.Find(v(1)); len(got) != 0 || e != api.ErrNil {
		t.Error(got, e)
	}
	zero := &table.Table{}
	zero.Longest()
	zero.Keys()
	zero.Put(v(1), v(1))
	zero.Seal()
	zero.Find(v(1))
	(&table.Table{}).Find(nil)
}

// P34.1, P34.3
func TestBuckets(t *testing.T) {
	for asked, count := range map[int]int{math.MinInt: 1, 0: 1, 1: 1, 2: 2, 7: 7, 4096: 4096, 4097: 4096, math.MaxInt: 4096} {
		for _, seed := range []int{0, 5, -3} {
			tab := table.New(seed, asked)
			if tab.Longest() != 0 || tab.Len() != 0 || tab.Sealed() {
				t.Error("new")
			}
			size := map[int]int{}
			most := 0
			for i := range 300 {
				key := v(i%50, "k")
				if i%7 == 0 {
					key = v(nil, i)
				}
				tab.Put(key, v(i))
				b := hash.Bucket(hash.Row(seed, key), count)
				size[b]++
				most = max(most, size[b])
				if tab.Longest() != most || tab.Len() != i+1 {
					t.Fatal(asked, seed, i, tab.Longest(), most)
				}
			}
		}
	}
}

// P34.2, P34.4: seeds and buckets change nothing.
func TestAgainstNaive(t *testing.T) {
	odd := api.Val{Kind: 3}
	for seed := range 100 {
		d := sample.New(seed)
		some := func() []api.Val {
			l := []any{}
			for range d.To(3) {
				l = append(l, []any{1, 2, nil, "a", odd, api.Val{Kind: 1, I: 1, S: "x"}}[d.To(6)])
			}
			return v(l...)
		}
		var keys, put [][]api.Val
		tabs := []*table.Table{table.New(seed, 1), table.New(-seed, 1+d.To(40)), table.New(d.To(99), 4096)}
		for i := range d.To(40) {
			keys, put = append(keys, some()), append(put, v(i))
			for _, tab := range tabs {
				tab.Put(keys[i], put[i])
			}
		}
		var whole [][]api.Val
		for _, k := range keys {
			if sift.Whole(k) {
				whole = append(whole, k)
			}
		}
		for _, tab := range tabs {
			if !same(tab.Keys(), whole) || tab.Len() != len(keys) {
				t.Error(tab.Keys(), whole)
			}
			tab.Seal()
		}
		for range 30 {
			key := some()
			var want [][]api.Val
			for i, k := range keys {
				if semi.Match(k, key) {
					want = append(want, put[i])
				}
			}
			for _, tab := range tabs {
				got, e := tab.Find(key)
				if !same(got, want) || e != api.OK || !sift.Whole(key) && len(got) > 0 {
					t.Fatal(key, got, want)
				}
			}
		}
	}
}

// What is answered is new memory.
func TestMemory(t *testing.T) {
	tab := table.New(0, 1)
	tab.Put(v(1), v("a"))
	tab.Keys()[0] = nil
	tab.Seal()
	got, _ := tab.Find(v(1))
	if len(got) != 1 || !same(tab.Keys(), [][]api.Val{v(1)}) {
		t.Error(got, tab.Keys())
	}
	got[0] = nil
	if again, _ := tab.Find(v(1)); !same(again, [][]api.Val{v("a")}) {
		t.Error("shared", again)
	}
}
