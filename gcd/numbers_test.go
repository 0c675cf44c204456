package gcd_test

import (
	"math"
	"math/big"
	"slices"
	"testing"

	"facetroom/api"
	"facetroom/gcd"
)

const (
	top  = math.MaxUint64
	half = 1 << 63
)

// numbers are the edges of one limb and of several, and numbers within.
func numbers() []api.Nat {
	return []api.Nat{
		nil, {}, {1}, {2}, {3}, {6}, {10}, {1 << 32}, {1<<32 + 1}, {half - 1}, {half}, {half + 1}, {top - 1}, {top},
		{0, 1}, {1, 1}, {2, 1}, {6, 1}, {top, 1}, {0, half}, {1, half}, {top, half}, {top, half - 1}, {0, top}, {1, top}, {top, top - 1}, {top - 1, top}, {top, top},
		{0, 0, 1}, {1, 2, 3}, {top, 0, 1}, {0, top, 1}, {top, top, 1}, {1, 0, half}, {0, top, half}, {top, top, half}, {1, 0, top}, {top, 0, top}, {top, top, top},
		{0, 0, 0, 1}, {0, 0, 6, 1}, {0, 0, 0, half}, {top, top, 0, 1}, {top, 0, 0, half - 1}, {top, top, top, top}, {7, 0, 0, 0, 0, 1},
		{0xfedcba9876543210, 0x0123456789abcdef, 0x8000000000000001, 0, 0x0f0f0f0f0f0f0f0f},
	}
}

// many are numbers of all lengths up to some.
func many() []api.Nat {
	l := numbers()
	for n := 1; n < 12; n++ {
		l = append(l, sized(n)...)
	}
	return l
}

// above are those of these numbers that are not 0.
func above(l []api.Nat) []api.Nat {
	return slices.DeleteFunc(slices.Clone(l), func(a api.Nat) bool { return len(a) == 0 })
}

// bad are lists of limbs that are no number.
func bad() []api.Nat {
	return []api.Nat{{0}, {0, 0}, {1, 0}, {top, 0}, {0, 1, 0}, {1, 2, 3, 0}, append(mixed(212), 0), append(mixed(213), 0), append(mixed(500), 0), make(api.Nat, 1100)}
}

// full is the greatest number of so many limbs.
func full(n int) api.Nat { return slices.Repeat(api.Nat{top}, n) }

// bare is the least number of so many limbs.
func bare(n int) api.Nat { return append(make(api.Nat, n-1), 1) }

// mixed is a number of so many limbs, of all kinds, each time the same.
func mixed(n int) api.Nat {
	a := make(api.Nat, n)
	x := uint64(n)*0x9e3779b97f4a7c15 + 1
	for i := range a {
		a[i] = shuffled(&x)
	}
	a[n-1] |= 1
	return a
}

// shuffled is the next one of a row of words, which is each time the same.
func shuffled(x *uint64) uint64 {
	*x ^= *x << 13
	*x ^= *x >> 7
	*x ^= *x << 17
	return *x
}

// gaps is a number of so many limbs, most of which are 0.
func gaps(n int) api.Nat {
	a := make(api.Nat, n)
	for i := 0; i < n; i += 7 {
		a[i] = uint64(i)
	}
	a[n-1] = half
	return a
}

// sized are numbers of so many limbs.
func sized(n int) []api.Nat { return []api.Nat{full(n), bare(n), mixed(n), gaps(n)} }

func value(a api.Nat) *big.Int {
	b := make([]byte, 0, 8*len(a))
	for _, x := range slices.Backward(a) {
		for i := 56; i >= 0; i -= 8 {
			b = append(b, byte(x>>i))
		}
	}
	return new(big.Int).SetBytes(b)
}

func limbs(v *big.Int) api.Nat {
	b := v.Bytes()
	a := make(api.Nat, (len(b)+7)/8)
	for i, x := range b {
		place := len(b) - 1 - i
		a[place/8] |= uint64(x) << (place % 8 * 8)
	}
	return a
}

// product is a times b, by another's reckoning.
func product(a, b api.Nat) api.Nat { return limbs(new(big.Int).Mul(value(a), value(b))) }

// plus is a with n, which may be below 0, by another's reckoning.
func plus(a api.Nat, n int64) api.Nat { return limbs(new(big.Int).Add(value(a), big.NewInt(n))) }

// power is b^n, by another's reckoning.
func power(b int64, n int) api.Nat {
	return limbs(new(big.Int).Exp(big.NewInt(b), big.NewInt(int64(n)), nil))
}

// divisor and multiple are the greatest common divisor, and the least common multiple, by another's reckoning.
func divisor(a, b api.Nat) api.Nat {
	return limbs(new(big.Int).GCD(nil, nil, value(a), value(b)))
}

func multiple(a, b api.Nat) api.Nat {
	if len(a) == 0 || len(b) == 0 {
		return nil
	}
	v := new(big.Int).Mul(value(a), value(b))
	return limbs(v.Quo(v, value(divisor(a, b))))
}

// told is a number for a message, shortened.
func told(a api.Nat) []uint64 { return a[:min(len(a), 6)] }

// cut is a text for a message, shortened.
func cut(s string) string { return s[:min(len(s), 60)] }

// is holds what a call answered against a number, limb by limb.
func is(t *testing.T, what string, got, want api.Nat) {
	t.Helper()
	if !slices.Equal(got, want) {
		t.Errorf("%s: %d limbs %v; want %d limbs %v", what, len(got), told(got), len(want), told(want))
	}
}

// have holds what Gcd and Lcm answer, in either order, against a divisor and a multiple.
func have(t *testing.T, a, b, g, l api.Nat) {
	t.Helper()
	for _, p := range [][2]api.Nat{{a, b}, {b, a}} {
		if x, e := gcd.Gcd(p[0], p[1]); e != api.OK || !slices.Equal(x, g) {
			t.Errorf("Gcd %v, %v (%d limbs, %d): %v, error %d; want %v", told(p[0]), told(p[1]), len(p[0]), len(p[1]), told(x), int(e), told(g))
		}
		if x, e := gcd.Lcm(p[0], p[1]); e != api.OK || !slices.Equal(x, l) {
			t.Errorf("Lcm %v, %v (%d limbs, %d): %v, error %d; want %v", told(p[0]), told(p[1]), len(p[0]), len(p[1]), told(x), int(e), told(l))
		}
	}
}

// haveAs does so by another's reckoning.
func haveAs(t *testing.T, a, b api.Nat) {
	t.Helper()
	have(t, a, b, divisor(a, b), multiple(a, b))
}

// sureOf makes a function that lets numbers through, and ends the test at an error.
func sureOf(t *testing.T) func(a api.Nat, e api.Errno) api.Nat {
	return func(a api.Nat, e api.Errno) api.Nat {
		t.Helper()
		if e != api.OK {
			t.Fatalf("error %d", int(e))
		}
		return a
	}
}

// sureText makes such a function of texts.
func sureText(t *testing.T) func(s string, e api.Errno) string {
	return func(s string, e api.Errno) string {
		t.Helper()
		if e != api.OK {
			t.Fatalf("error %d", int(e))
		}
		return s
	}
}
