package mul_test

import (
	"math"
	"math/big"
	"slices"
	"testing"

	"facetroom/api"
	"facetroom/mul"
	"facetroom/nat"
)

const top = math.MaxUint64

type times func(a, b api.Nat) (api.Nat, api.Errno)

// ways are all calls that make a product.
func ways() map[string]times {
	return map[string]times{"Mul": mul.Mul, "School": mul.School, "Split": mul.Split}
}

// numbers are the edges of one limb and of several, and numbers within.
func numbers() []api.Nat {
	return []api.Nat{
		nil, {}, {1}, {2}, {3}, {5}, {10}, {1 << 32}, {1<<32 + 1}, {1<<63 - 1}, {1 << 63}, {top - 1}, {top},
		{0, 1}, {1, 1}, {2, 1}, {top, 1}, {0, 1 << 63}, {0, top}, {1, top}, {top, top - 1}, {top - 1, top}, {top, top},
		{0, 0, 1}, {1, 2, 3}, {top, 0, 1}, {0, top, 1}, {top, top, 1}, {1, 0, top}, {top, 0, top}, {top, top, top},
		{0, 0, 0, 1}, {0, 0, 5, 1}, {top, top, 0, 1}, {top, top, top, top}, {7, 0, 0, 0, 0, 1},
		{0xfedcba9876543210, 0x0123456789abcdef, 0x8000000000000001, 0, 0x0f0f0f0f0f0f0f0f},
	}
}

// bad are lists of limbs that are no number.
func bad() []api.Nat {
	return []api.Nat{{0}, {0, 0}, {1, 0}, {top, 0}, {0, 1, 0}, {1, 2, 3, 0}, append(mixed(500), 0), make(api.Nat, 1100)}
}

// full is the greatest number of so many limbs.
func full(n int) api.Nat { return slices.Repeat(api.Nat{top}, n) }

// bare is the least number of so many limbs.
func bare(n int) api.Nat { return append(make(api.Nat, n-1), 1) }

// mixed is a number of so many limbs, of all kinds, each time the same.
func mixed(n int) api.Nat {
	a := make(api.Nat, n)
	x := uint64(n)*0x9e3779b97f4a7c15 + 1
	for i := range a {
		x ^= x << 13
		x ^= x >> 7
		x ^= x << 17
		a[i] = x
	}
	a[n-1] |= 1
	return a
}

// gaps is a number of so many limbs, most of which are 0.
func gaps(n int) api.Nat {
	a := make(api.Nat, n)
	for i := 0; i < n; i += 7 {
		a[i] = uint64(i)
	}
	a[n-1] = 1 << 63
	return a
}

// sized are numbers of so many limbs.
func sized(n int) []api.Nat { return []api.Nat{full(n), bare(n), mixed(n), gaps(n)} }

func value(a api.Nat) *big.Int {
	b := make([]byte, 0, 8*len(a))
	for _, x := range slices.Backward(a) {
		for i := 56; i >= 0; i -= 8 {
			b = append(b, byte(x>>i))
		}
	}
	return new(big.Int).SetBytes(b)
}

func limbs(v *big.Int) api.Nat {
	b := v.Bytes()
	a := make(api.Nat, (len(b)+7)/8)
	for i, x := range b {
		place := len(b) - 1 - i
		a[place/8] |= uint64(x) << (place % 8 * 8)
	}
	return a
}

// product is a times b, by another's reckoning.
func product(a, b api.Nat) api.Nat { return limbs(new(big.Int).Mul(value(a), value(b))) }

// told is a number for a message, shortened.
func told(a api.Nat) []uint64 { return a[:min(len(a), 6)] }

// is holds what a call answered against a number, limb by limb.
func is(t *testing.T, what string, got api.Nat, e api.Errno, want api.Nat) {
	t.Helper()
	if e != api.OK || !slices.Equal(got, want) {
		t.Errorf("%s: %d limbs %v, error %d; want %d limbs %v", what, len(got), told(got), int(e), len(want), told(want))
	}
}

// refused checks that beside an error there is nothing.
func refused(t *testing.T, what string, got api.Nat, e, want api.Errno) {
	t.Helper()
	if e != want || len(got) != 0 {
		t.Errorf("%s: %d limbs %v, error %d; want error %d", what, len(got), told(got), int(e), int(want))
	}
}

// sureOf makes a function that lets numbers through, and ends the test at an error.
func sureOf(t *testing.T) func(a api.Nat, e api.Errno) api.Nat {
	return func(a api.Nat, e api.Errno) api.Nat {
		t.Helper()
		if e != api.OK {
			t.Fatalf("error %d", int(e))
		}
		return a
	}
}

// bitsOf is how long a number is.
func bitsOf(t *testing.T, a api.Nat) int {
	t.Helper()
	n, e := nat.Long(a)
	if e != api.OK {
		t.Fatalf("error %d", int(e))
	}
	return n
}
