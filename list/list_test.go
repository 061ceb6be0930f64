package list_test

import (
	"slices"
	"testing"

	"trommel/list"
)

func TestRising(t *testing.T) {
	if got := list.Rising(3); !slices.Equal(got, []int{0, 1, 2}) {
		t.Error(got)
	}
	if len(list.Rising(0)) != 0 || len(list.Rising(-5)) != 0 {
		t.Error("of none")
	}
}
