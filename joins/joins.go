// Package joins has what all layers share that make environments out of others, whether by a plan or without one.
package joins

import (
	"slices"

	"trommel/api"
)

// With: another row, if the environment has such a place.
func With(env [][]api.Val, t int, r []api.Val) [][]api.Val {
	out := slices.Clone(env)
	if t >= 0 && t < len(out) {
		out[t] = r
	}
	return out
}

// Asks: does it just matter, by how a table is joined, whether there is a match?
func Asks(join int) bool {
	return join == api.JoinSemi || join == api.JoinAnti
}

// Alone: does an environment go on with an empty row, by how a table is joined, and by whether there was a match?
func Alone(join int, met bool) bool {
	switch join {
	case api.JoinSemi:
		return met
	case api.JoinLeft, api.JoinAnti:
		return !met
	}
	return false
}
