package sample_test

import (
	"testing"

	"trommel/api"
	"trommel/deno"
	"trommel/sample"
)

// What is made may be, and is the same for the same seed.
func TestMayBe(t *testing.T) {
	told := 0
	for seed := range 500 {
		d := sample.New(seed)
		db := sample.Tables(d, 5)
		s := sample.Query(d, 1+d.To(4), sample.Joins(seed%2 == 0))
		if _, e := deno.Ready(db, s); e != api.OK {
			t.Error(seed, s, e)
		}
		if l, _ := deno.Text(db, s); len(l) > 0 {
			told++
		}
		again := sample.New(seed)
		sample.Tables(again, 5)
		if sample.Query(again, 1+again.To(4), sample.Joins(seed%2 == 0)) != s {
			t.Error(seed)
		}
	}
	if told < 100 {
		t.Error("too few queries tell rows", told)
	}
}

func TestNone(t *testing.T) {
	d := sample.New(1)
	if d.To(0) != 0 || d.To(-3) != 0 || d.One() != "" {
		t.Error("of none")
	}
}
