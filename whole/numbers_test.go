package whole_test

import (
	"math"
	"math/big"
	"slices"
	"testing"

	"facetroom/api"
	"facetroom/whole"
)

const (
	top  = math.MaxUint64
	half = 1 << 63
)

// sizes are numbers from 0 on: the edges of one limb, of two and of several, and numbers within.
func sizes() []api.Nat {
	return []api.Nat{
		nil, {1}, {2}, {3}, {7}, {10}, {1 << 32}, {half - 1}, {half}, {half + 1}, {top - 1}, {top},
		{0, 1}, {1, 1}, {3, 1}, {top, 1}, {0, half}, {top, half - 1}, {top - 1, top}, {top, top},
		{0, 0, 1}, {1, 2, 3}, {top, 0, 1}, {0, top, half}, {top, top, top},
		{7, 0, 0, 0, 0, 1}, {0xfedcba9876543210, 0x0123456789abcdef, 0x8000000000000001, 0, 0x0f0f0f0f0f0f0f0f},
		mixed(4), mixed(12), full(20), bare(31),
	}
}

// mixed is a number of so many limbs, of all kinds, each time the same.
func mixed(n int) api.Nat {
	a := make(api.Nat, n)
	x := uint64(n)*0x9e3779b97f4a7c15 + 1
	for i := range a {
		a[i] = shuffled(&x)
	}
	a[n-1] |= 1
	return a
}

// shuffled is the next one of a row of words, which is each time the same.
func shuffled(x *uint64) uint64 {
	*x ^= *x << 13
	*x ^= *x >> 7
	*x ^= *x << 17
	return *x
}

// full is the greatest number of so many limbs, bare the least one.
func full(n int) api.Nat { return slices.Repeat(api.Nat{top}, n) }
func bare(n int) api.Nat { return append(make(api.Nat, n-1), 1) }

// plus and minus are the numbers of that Abs, above 0 and below.
func plus(abs api.Nat) api.Int  { return api.Int{Abs: abs} }
func minus(abs api.Nat) api.Int { return api.Int{Neg: true, Abs: abs} }

// noughts are both ways to write 0.
func noughts() []api.Int { return []api.Int{{}, {Abs: api.Nat{}}} }

// numbers are all sizes, above 0 and below.
func numbers() []api.Int {
	l := noughts()
	for _, abs := range sizes()[1:] {
		l = append(l, plus(abs), minus(abs))
	}
	return l
}

// few are some of them, of each kind, for three at a time.
func few() []api.Int {
	l := noughts()
	for _, abs := range []api.Nat{{1}, {2}, {7}, {half}, {top}, {0, 1}, {top, top}, {1, 2, 3}, mixed(5), full(6)} {
		l = append(l, plus(abs), minus(abs))
	}
	return l
}

// bad are what is no number: a last limb that is 0, and 0 below 0.
func bad() []api.Int {
	l := []api.Int{{Neg: true}, {Neg: true, Abs: api.Nat{}}}
	for _, abs := range []api.Nat{{0}, {0, 0}, {1, 0}, {top, 0}, {0, 1, 0}, {1, 2, 3, 0}, append(mixed(20), 0), make(api.Nat, 300)} {
		l = append(l, plus(abs), minus(abs))
	}
	return l
}

func value(a api.Int) *big.Int {
	b := make([]byte, 0, 8*len(a.Abs))
	for _, x := range slices.Backward(a.Abs) {
		for i := 56; i >= 0; i -= 8 {
			b = append(b, byte(x>>i))
		}
	}
	v := new(big.Int).SetBytes(b)
	if a.Neg {
		v.Neg(v)
	}
	return v
}

func number(v *big.Int) api.Int {
	b := new(big.Int).Abs(v).Bytes()
	a := make(api.Nat, (len(b)+7)/8)
	for i, x := range b {
		place := len(b) - 1 - i
		a[place/8] |= uint64(x) << (place % 8 * 8)
	}
	return api.Int{Neg: v.Sign() < 0, Abs: a}
}

// power is b^n, by another's reckoning.
func power(b int64, n int) *big.Int {
	return new(big.Int).Exp(big.NewInt(b), big.NewInt(int64(n)), nil)
}

// told is a number for a message, shortened.
func told(a api.Int) string {
	s := value(a).String()
	if len(a.Abs) > 0 && a.Abs[len(a.Abs)-1] == 0 {
		s += " with a nought behind it"
	}
	if a.Neg && len(a.Abs) == 0 {
		s = "-" + s
	}
	return cut(s)
}

// cut is a text for a message, shortened.
func cut(s string) string {
	if len(s) > 60 {
		return s[:60] + ".."
	}
	return s
}

// same tells whether two answers are one number, limb by limb.
func same(a, b api.Int) bool { return a.Neg == b.Neg && slices.Equal(a.Abs, b.Abs) }

// is holds what a call answered against a number.
func is(t *testing.T, what string, got, want api.Int) {
	t.Helper()
	if !same(got, want) {
		t.Errorf("%s: %s; want %s", what, told(got), told(want))
	}
}

// refused checks that beside an error there is nothing.
func refused(t *testing.T, what string, got api.Int, e, want api.Errno) {
	t.Helper()
	if e != want || !same(got, api.Int{}) {
		t.Errorf("%s: %s, error %d; want error %d", what, told(got), int(e), int(want))
	}
}

// sureOf makes a function that lets numbers through, and ends the test at an error.
func sureOf(t *testing.T) func(a api.Int, e api.Errno) api.Int {
	return func(a api.Int, e api.Errno) api.Int {
		t.Helper()
		if e != api.OK {
			t.Fatalf("error %d", int(e))
		}
		return a
	}
}

// sureSign makes such a function of signs.
func sureSign(t *testing.T) func(n int, e api.Errno) int {
	return func(n int, e api.Errno) int {
		t.Helper()
		if e != api.OK {
			t.Fatalf("error %d", int(e))
		}
		return n
	}
}

type reckon func(a, b api.Int) (api.Int, api.Errno)

// pairCalls are all calls that reckon with two numbers.
func pairCalls() map[string]reckon {
	return map[string]reckon{"Add": whole.Add, "Sub": whole.Sub, "Mul": whole.Mul, "Floor": whole.Floor, "Ceil": whole.Ceil, "Exact": whole.Exact}
}
