// Package val is layer 1: values, that are numbers, texts, or none.
package val

import (
	"cmp"
	"strings"

	"trommel/api"
)

// Right: may it be?
func Right(v api.Val) bool {
	switch v.Kind {
	case api.KindNull:
		if v.S != "" {
			return false
		}
		fallthrough // what is left of null is as of a text: no number beside it
	case api.KindText:
		return v.I == 0 && len(v.S) <= api.MaxText
	case api.KindInt:
		return v.S == ""
	}
	return false
}

// Null: none.
func Null() api.Val { return api.Val{} }

// Int: a number.
func Int(n int) api.Val { return api.Val{Kind: api.KindInt, I: n} }

// Text: a text; null, if it is too long.
func Text(s string) api.Val {
	if len(s) > api.MaxText {
		return Null()
	}
	return api.Val{Kind: api.KindText, S: s}
}

// Same: the same one, in all fields?
func Same(a, b api.Val) bool { return a == b }

// Order: of all values, right or not: -1, 0, 1.
func Order(a, b api.Val) int {
	return cmp.Or(
		cmp.Compare(a.Kind, b.Kind),
		cmp.Compare(a.I, b.I),
		strings.Compare(a.S, b.S),
	)
}

// Cmp: of two numbers, or two texts; false of others.
func Cmp(a, b api.Val) (int, bool) {
	if a.Kind != b.Kind {
		return 0, false
	}
	switch a.Kind {
	case api.KindInt, api.KindText:
		return Order(a, b), true
	}
	return 0, false
}

// IsNull: is it none?
func IsNull(v api.Val) bool { return v.Kind == api.KindNull }

// Key: a text that tells right values apart.
func Key(v api.Val) string {
	switch v.Kind {
	case api.KindNull:
		return "n"
	case api.KindInt:
		return "i" + string(eight(v.I))
	case api.KindText:
		return "t" + v.S
	}
	return ""
}

// eight: a number's bytes, the highest first. Its sign is turned, so that they lie as numbers do.
func eight(n int) []byte {
	u := uint64(n) ^ 1<<63
	b := make([]byte, 8)
	for i := range b {
		b[i] = byte(u >> (56 - 8*i))
	}
	return b
}
