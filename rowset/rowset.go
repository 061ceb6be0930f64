// Package rowset has sets of rows, that may have any values, right or not.
package rowset

import (
	"slices"

	"trommel/api"
	"trommel/rows"
)

// Set is rows, each once, by their keys. Keys tell rows of right values apart; of others there may be several by one key.
type Set struct {
	byKey map[string][][]api.Val
}

// New: without rows.
func New() Set { return Set{byKey: map[string][][]api.Val{}} }

// Has: is a row there?
func (s Set) Has(r []api.Val) bool {
	return slices.ContainsFunc(s.byKey[rows.Key(r)], func(x []api.Val) bool { return rows.Same(x, r) })
}

// Put: a row more; was it not there yet?
func (s Set) Put(r []api.Val) bool {
	if s.Has(r) {
		return false
	}
	key := rows.Key(r)
	s.byKey[key] = append(s.byKey[key], r)
	return true
}
