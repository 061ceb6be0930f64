package plan

import (
	"slices"

	"trommel/api"
	"trommel/eval"
	"trommel/joins"
	"trommel/rows"
	"trommel/semi"
)

// env has a row for each table.
type env = [][]api.Val

// Envs: what a plan tells, by going through all rows.
func Envs(p api.Plan, tables []api.Table) [][][]api.Val {
	t := Driver(p)
	var envs []env
	for _, r := range scanned(p, tables, t) {
		if first := joins.With(make(env, len(p.Pipes)), t, r); eval.Holds(p.First, first) {
			envs = append(envs, first)
		}
	}
	for _, probe := range p.Probes {
		envs = joined(p, tables, probe, envs)
	}
	return slices.DeleteFunc(envs, func(e env) bool { return !eval.Holds(p.Where, e) })
}

// scanned: the rows of a table for which its pipe's conditions hold.
func scanned(p api.Plan, tables []api.Table, t int) [][]api.Val {
	var out [][]api.Val
	if t < 0 || t >= len(p.Pipes) || t >= len(tables) {
		return nil
	}
	for _, r := range tables[t].Rows {
		if eval.Holds(p.Pipes[t].Scan, joins.With(make(env, len(p.Pipes)), t, r)) {
			out = append(out, r)
		}
	}
	return out
}

// joined: what becomes of environments by a probe.
func joined(p api.Plan, tables []api.Table, probe api.Probe, envs []env) []env {
	var out []env
	each := matcher(probe, scanned(p, tables, probe.Table))
	for _, e := range envs {
		met := false
		each(e, func(next env) {
			met = true
			if !joins.Asks(probe.Join) {
				out = append(out, next)
			}
		})
		if joins.Alone(probe.Join, met) {
			out = append(out, joins.With(e, probe.Table, nil))
		}
	}
	return out
}

// matcher hands an environment, with each row that matches, to a function.
func matcher(probe api.Probe, l [][]api.Val) func(e env, met func(next env)) {
	var cols []int
	for _, k := range probe.Keys {
		cols = append(cols, k.BC)
	}
	var keys [][]api.Val
	for _, r := range l {
		keys = append(keys, rows.Pick(r, cols))
	}
	return func(e env, met func(next env)) {
		var key []api.Val
		for _, k := range probe.Keys {
			key = append(key, eval.At(e, k.A, k.AC))
		}
		for i, r := range l {
			if !semi.Match(key, keys[i]) {
				continue
			}
			if next := joins.With(e, probe.Table, r); eval.Holds(probe.Rest, next) {
				met(next)
			}
		}
	}
}
