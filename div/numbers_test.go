package div_test

import (
	"math"
	"math/big"
	"slices"
	"testing"

	"facetroom/api"
	"facetroom/div"
)

const (
	top  = math.MaxUint64
	half = 1 << 63
)

type divide func(a, b api.Nat) (q, r api.Nat, e api.Errno)

// ways are all calls that make a quotient of two numbers, and what is left over.
func ways() map[string]divide { return map[string]divide{"Div": div.Div, "Long": div.Long} }

// numbers are the edges of one limb and of several, and numbers within.
func numbers() []api.Nat {
	return []api.Nat{
		nil, {}, {1}, {2}, {3}, {5}, {10}, {1 << 32}, {1<<32 + 1}, {half - 1}, {half}, {half + 1}, {top - 1}, {top},
		{0, 1}, {1, 1}, {2, 1}, {top, 1}, {0, half}, {1, half}, {top, half}, {top, half - 1}, {0, top}, {1, top}, {top, top - 1}, {top - 1, top}, {top, top},
		{0, 0, 1}, {1, 2, 3}, {top, 0, 1}, {0, top, 1}, {top, top, 1}, {1, 0, half}, {0, top, half}, {top, top, half}, {1, 0, top}, {top, 0, top}, {top, top, top},
		{0, 0, 0, 1}, {0, 0, 5, 1}, {0, 0, 0, half}, {top, top, 0, 1}, {top, 0, 0, half - 1}, {top, top, top, top}, {7, 0, 0, 0, 0, 1},
		{0xfedcba9876543210, 0x0123456789abcdef, 0x8000000000000001, 0, 0x0f0f0f0f0f0f0f0f},
	}
}

// above are those of these numbers that are not 0.
func above(l []api.Nat) []api.Nat {
	return slices.DeleteFunc(slices.Clone(l), func(a api.Nat) bool { return len(a) == 0 })
}

// bad are lists of limbs that are no number.
func bad() []api.Nat {
	return []api.Nat{{0}, {0, 0}, {1, 0}, {top, 0}, {0, 1, 0}, {1, 2, 3, 0}, append(mixed(500), 0), make(api.Nat, 1100)}
}

// words are the edges of one limb, and numbers within.
func words() []uint64 {
	return []uint64{1, 2, 3, 7, 10, 1<<32 - 1, 1 << 32, 1<<32 + 1, 10_000_000_000_000_000_000, half - 1, half, half + 1, top - 1, top}
}

// full is the greatest number of so many limbs.
func full(n int) api.Nat { return slices.Repeat(api.Nat{top}, n) }

// bare is the least number of so many limbs.
func bare(n int) api.Nat { return append(make(api.Nat, n-1), 1) }

// mixed is a number of so many limbs, of all kinds, each time the same.
func mixed(n int) api.Nat {
	a := make(api.Nat, n)
	x := uint64(n)*0x9e3779b97f4a7c15 + 1
	for i := range a {
		x ^= x << 13
		x ^= x >> 7
		x ^= x << 17
		a[i] = x
	}
	a[n-1] |= 1
	return a
}

// gaps is a number of so many limbs, most of which are 0.
func gaps(n int) api.Nat {
	a := make(api.Nat, n)
	for i := 0; i < n; i += 7 {
		a[i] = uint64(i)
	}
	a[n-1] = half
	return a
}

// sized are numbers of so many limbs.
func sized(n int) []api.Nat { return []api.Nat{full(n), bare(n), mixed(n), gaps(n)} }

func value(a api.Nat) *big.Int {
	b := make([]byte, 0, 8*len(a))
	for _, x := range slices.Backward(a) {
		for i := 56; i >= 0; i -= 8 {
			b = append(b, byte(x>>i))
		}
	}
	return new(big.Int).SetBytes(b)
}

func limbs(v *big.Int) api.Nat {
	b := v.Bytes()
	a := make(api.Nat, (len(b)+7)/8)
	for i, x := range b {
		place := len(b) - 1 - i
		a[place/8] |= uint64(x) << (place % 8 * 8)
	}
	return a
}

// quotient is a by b and what is left over, by another's reckoning.
func quotient(a, b api.Nat) (q, r api.Nat) {
	x, y := new(big.Int).QuoRem(value(a), value(b), new(big.Int))
	return limbs(x), limbs(y)
}

// made is q times b and r together, by another's reckoning.
func made(q, b, r api.Nat) api.Nat {
	v := new(big.Int).Mul(value(q), value(b))
	return limbs(v.Add(v, value(r)))
}

// lessOne is a number less 1, by another's reckoning.
func lessOne(a api.Nat) api.Nat { return limbs(new(big.Int).Sub(value(a), big.NewInt(1))) }

// told is a number for a message, shortened.
func told(a api.Nat) []uint64 { return a[:min(len(a), 6)] }

// is holds what a call answered against a number, limb by limb.
func is(t *testing.T, what string, got, want api.Nat) {
	t.Helper()
	if !slices.Equal(got, want) {
		t.Errorf("%s: %d limbs %v; want %d limbs %v", what, len(got), told(got), len(want), told(want))
	}
}

// divides holds what both ways answer against a quotient and what is left over.
func divides(t *testing.T, a, b, q, r api.Nat) {
	t.Helper()
	for name, by := range ways() {
		x, y, e := by(a, b)
		if e != api.OK || !slices.Equal(x, q) || !slices.Equal(y, r) {
			t.Errorf("%s %v, %v (%d limbs, %d): %v, %v, error %d; want %v, %v", name, told(a), told(b), len(a), len(b), told(x), told(y), int(e), told(q), told(r))
		}
	}
}

// dividesAs does so by another's reckoning.
func dividesAs(t *testing.T, a, b api.Nat) {
	t.Helper()
	q, r := quotient(a, b)
	divides(t, a, b, q, r)
}

// well ends the test at an error.
func well(t *testing.T, e api.Errno) {
	t.Helper()
	if e != api.OK {
		t.Fatalf("error %d", int(e))
	}
}

// sureOf makes a function that lets numbers through, and ends the test at an error.
func sureOf(t *testing.T) func(a api.Nat, e api.Errno) api.Nat {
	return func(a api.Nat, e api.Errno) api.Nat {
		t.Helper()
		well(t, e)
		return a
	}
}
