package hash_test

import (
	"math"
	"math/big"
	"testing"

	"trommel/api"
	"trommel/hash"
	"trommel/rows"
	"trommel/val"
)

// part is one step of Mix, with numbers as great as they are.
func part(h uint64, shift uint, by string) uint64 {
	x := h ^ h>>shift
	m, _ := new(big.Int).SetString(by, 16)
	m.Mul(m, new(big.Int).SetUint64(x))
	m.Mod(m, new(big.Int).Lsh(big.NewInt(1), 64))
	return m.Uint64()
}

func mix(h uint64) uint64 {
	h = part(h, 31, "9e3779b97f4a7c15")
	h = part(h, 29, "bf58476d1ce4e5b9")
	return h ^ h>>32
}

func numbers() []uint64 {
	return []uint64{0, 1, 2, 255, 1 << 31, 1 << 32, 1<<32 - 1, 1 << 63, math.MaxUint64, 0x0123456789abcdef, 0xfedcba9876543210}
}

// P17.1
func TestMix(t *testing.T) {
	if hash.Mix(0) != 0 {
		t.Error("Mix(0)")
	}
	for _, h := range numbers() {
		if hash.Mix(h) != mix(h) {
			t.Error(h)
		}
	}
}

// P17.1
func TestByte(t *testing.T) {
	for _, h := range numbers() {
		for _, b := range []byte{0, 1, 'a', 255} {
			x := h ^ uint64(b)
			want := x*0x1b3 + x<<40
			if hash.Byte(h, b) != want {
				t.Error(h, b)
			}
		}
	}
}

// P17.1
func TestStart(t *testing.T) {
	for _, seed := range []int{0, 1, -1, math.MaxInt, math.MinInt, 12345} {
		if hash.Start(seed) != mix(uint64(seed)+0x2545f4914f6cdd1d) {
			t.Error(seed)
		}
	}
	if hash.Start(-0x2545f4914f6cdd1d) != 0 {
		t.Error("both together go round")
	}
}

func ofText(seed int, s string) uint64 {
	h := hash.Start(seed)
	for i := 0; i < len(s); i++ {
		h = hash.Byte(h, s[i])
	}
	return mix(h)
}

// P17.2
func TestOf(t *testing.T) {
	for _, v := range []api.Val{val.Null(), val.Int(0), val.Int(-5), val.Text(""), val.Text("aé\x00"), {Kind: 3}} {
		for _, seed := range []int{0, 7, -7} {
			if hash.Of(seed, v) != ofText(seed, val.Key(v)) {
				t.Error(seed, v)
			}
			for _, r := range [][]api.Val{nil, {v}, {v, val.Int(3)}, {val.Null(), v}} {
				if hash.Row(seed, r) != ofText(seed, rows.Key(r)) {
					t.Error(seed, r)
				}
			}
		}
	}
}

// P17.2, P17.3
func TestBucket(t *testing.T) {
	for _, h := range numbers() {
		for _, n := range []int{1, 2, 3, 7, 4096, 1 << 33, math.MaxInt} {
			got := hash.Bucket(h, n)
			if got != int(h/(1<<32)%uint64(n)) || got < 0 || got >= n {
				t.Error(h, n, got)
			}
		}
		for _, n := range []int{0, -1, math.MinInt} {
			if hash.Bucket(h, n) != 0 {
				t.Error(h, n)
			}
		}
	}
}

// P17.3
func TestSameValues(t *testing.T) {
	a, b := val.Text("abc"), val.Text(string([]byte{'a', 'b', 'c'}))
	if hash.Of(3, a) != hash.Of(3, b) || hash.Of(3, a) == hash.Of(4, a) || hash.Of(3, a) == hash.Of(3, val.Text("abd")) {
		t.Error("Of")
	}
	if hash.Row(3, []api.Val{a, val.Null()}) != hash.Row(3, []api.Val{b, val.Null()}) {
		t.Error("Row")
	}
}
