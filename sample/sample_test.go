package sample_test

import (
	"slices"
	"testing"

	"trommel/api"
	"trommel/deno"
	"trommel/sample"
	"trommel/val"
)

// What is made may be, and is the same for the same seed.
func TestMayBe(t *testing.T) {
	told := 0
	for seed := range 500 {
		d := sample.New(seed)
		db := sample.Tables(d, 5)
		s := sample.Query(d, 1+d.To(4), sample.Joins(seed%2 == 0))
		if _, e := deno.Ready(db, s); e != api.OK {
			t.Error(seed, s, e)
		}
		if l, _ := deno.Text(db, s); len(l) > 0 {
			told++
		}
		again := sample.New(seed)
		sample.Tables(again, 5)
		if sample.Query(again, 1+again.To(4), sample.Joins(seed%2 == 0)) != s {
			t.Error(seed)
		}
	}
	if told < 100 {
		t.Error("too few queries tell rows", told)
	}
}

func TestNone(t *testing.T) {
	d := sample.New(1)
	if d.To(0) != 0 || d.To(-3) != 0 || d.One() != "" {
		t.Error("of none")
	}
}

func TestOrder(t *testing.T) {
	d := sample.New(1)
	for n := range 9 {
		got := sample.Order(d, n)
		slices.Sort(got)
		if len(got) != n || n > 0 && (got[0] != 0 || got[n-1] != n-1) {
			t.Error(n, got)
		}
	}
}

func TestRow(t *testing.T) {
	got := sample.Row(1, "a", nil, api.Val{Kind: 3})
	if !slices.Equal(got, []api.Val{val.Int(1), val.Text("a"), val.Null(), {Kind: 3}}) {
		t.Error(got)
	}
	one, two := [][][]api.Val{{got, nil}}, [][][]api.Val{{got}}
	if !sample.SameEnvs(one, one) || sample.SameEnvs(one, two) || sample.SameEnvs(one, nil) || !sample.SameEnvs(nil, [][][]api.Val{}) {
		t.Error("SameEnvs")
	}
}
