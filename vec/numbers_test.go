package vec_test

import (
	"math"
	"math/big"
	"slices"
	"strings"
	"testing"

	"facetroom/api"
	"facetroom/vec"
)

const (
	top  = math.MaxUint64
	half = 1 << 63
)

// sizes are numbers from 1 on, of one limb, of two and of many: some with common divisors, some without, some multiples of others.
func sizes() []api.Nat {
	return []api.Nat{
		{1}, {2}, {3}, {6}, {7}, {12}, {half}, {top},
		{0, 1}, {1, 1}, {0, half}, {top, top},
		{1, 2, 3}, {0, 0, 1}, mixed(4), full(9), bare(13),
	}
}

// mixed is a number of so many limbs, of all kinds, each time the same.
func mixed(n int) api.Nat {
	x := uint64(n)*0x9e3779b97f4a7c15 + 1
	return shuffledLimbs(&x, n)
}

// shuffledLimbs are the next ones of a row of words, as a number of so many limbs.
func shuffledLimbs(x *uint64, n int) api.Nat {
	a := make(api.Nat, n)
	for i := range a {
		a[i] = shuffled(x)
	}
	a[n-1] |= 1
	return a
}

// shuffled is the next one of a row of words, which is each time the same.
func shuffled(x *uint64) uint64 {
	*x ^= *x << 13
	*x ^= *x >> 7
	*x ^= *x << 17
	return *x
}

// full is the greatest number of so many limbs, bare the least one.
func full(n int) api.Nat { return slices.Repeat(api.Nat{top}, n) }
func bare(n int) api.Nat { return append(make(api.Nat, n-1), 1) }

// plus and minus are the numbers of that Abs, above 0 and below.
func plus(abs api.Nat) api.Int  { return api.Int{Abs: abs} }
func minus(abs api.Nat) api.Int { return api.Int{Neg: true, Abs: abs} }

// noughts are both ways to write 0.
func noughts() []api.Int { return []api.Int{{}, plus(api.Nat{})} }

// numbers are 0 and all sizes, above 0 and below.
func numbers() []api.Int {
	l := noughts()
	for _, abs := range sizes() {
		l = append(l, plus(abs), minus(abs))
	}
	return l
}

// badNumbers are what is no number: a last limb that is 0, and 0 below 0.
func badNumbers() []api.Int {
	l := []api.Int{{Neg: true}, {Neg: true, Abs: api.Nat{}}}
	for _, abs := range []api.Nat{{0}, {0, 0}, {1, 0}, {top, 0}, {0, 1, 0}, append(mixed(9), 0), make(api.Nat, 70)} {
		l = append(l, plus(abs), minus(abs))
	}
	return l
}

// small is the row of these.
func small(l ...int64) api.Vec {
	a := make(api.Vec, len(l))
	for i, n := range l {
		a[i] = number(big.NewInt(n))
	}
	return a
}

// times is a row of so many numbers, each of which is n.
func times(long int, n api.Int) api.Vec { return slices.Repeat(api.Vec{n}, long) }

// shuffledRow is the next row of that length: numbers of both signs and many lengths, some 0.
func shuffledRow(x *uint64, long int) api.Vec {
	a := make(api.Vec, long)
	for i := range a {
		if kind := shuffled(x) % 5; kind > 0 {
			a[i] = api.Int{Neg: shuffled(x)%2 == 0, Abs: shuffledLimbs(x, int(kind))}
		}
	}
	return a
}

// rows are rows of that length: all 0, all the same, of numbers from all there are, of small ones, of such with a common divisor, and mixed ones.
func rows(long int) []api.Vec {
	if long == 0 {
		return []api.Vec{nil, {}}
	}
	l := []api.Vec{times(long, noughts()[0]), times(long, noughts()[1]), times(long, plus(api.Nat{1})), times(long, minus(api.Nat{top, 5}))}
	all := numbers()
	for _, from := range []int{0, 3, 8, 21, 30} {
		a, b, c := make(api.Vec, long), make(api.Vec, long), make(api.Vec, long)
		common := value(all[from+3])
		for i := range long {
			a[i] = all[(from+5*i)%len(all)]
			b[i] = number(big.NewInt(int64((from+i)*7%11 - 5)))
			c[i] = number(new(big.Int).Mul(common, value(b[i])))
		}
		l = append(l, a, b, c)
	}
	x := uint64(long) + 99
	return append(l, shuffledRow(&x, long), shuffledRow(&x, long))
}

// lengths are those that are tried: the least, the greatest, and some within.
func lengths() []int { return []int{0, 1, 2, 3, 8, api.MaxVec - 1, api.MaxVec} }

// allRows are all of all lengths.
func allRows() []api.Vec {
	var l []api.Vec
	for _, long := range lengths() {
		l = append(l, rows(long)...)
	}
	return l
}

// badRows are what is no row: a number that may not be, in each place, and too many numbers.
func badRows() []api.Vec {
	l := []api.Vec{make(api.Vec, api.MaxVec+1), times(api.MaxVec+1, plus(api.Nat{7})), make(api.Vec, 1000)}
	for _, x := range badNumbers() {
		l = append(l, api.Vec{x}, times(3, x), times(api.MaxVec, x), times(api.MaxVec+1, x))
		for i := range 3 {
			a := small(4, 0, -6)
			a[i] = x
			l = append(l, a)
		}
	}
	for i := range api.MaxVec {
		a := times(api.MaxVec, plus(api.Nat{2}))
		a[i] = badNumbers()[i%len(badNumbers())]
		l = append(l, a)
	}
	return l
}

// fewBad are some of them, of each kind, for pairs.
func fewBad() []api.Vec {
	var l []api.Vec
	for i, a := range badRows() {
		if i < 3 || i%11 == 0 {
			l = append(l, a)
		}
	}
	return l
}

// value is a number, for another's reckoning.
func value(a api.Int) *big.Int {
	b := make([]byte, 0, 8*len(a.Abs))
	for _, x := range slices.Backward(a.Abs) {
		for i := 56; i >= 0; i -= 8 {
			b = append(b, byte(x>>i))
		}
	}
	v := new(big.Int).SetBytes(b)
	if a.Neg {
		v.Neg(v)
	}
	return v
}

// number is a number, of another's reckoning.
func number(v *big.Int) api.Int {
	b := new(big.Int).Abs(v).Bytes()
	a := make(api.Nat, (len(b)+7)/8)
	for i, x := range b {
		place := len(b) - 1 - i
		a[place/8] |= uint64(x) << (place % 8 * 8)
	}
	return api.Int{Neg: v.Sign() < 0, Abs: a}
}

// opposite is a row with all signs turned.
func opposite(a api.Vec) api.Vec {
	b := slices.Clone(a)
	for i := range b {
		b[i].Neg = !b[i].Neg && len(b[i].Abs) > 0
	}
	return b
}

// isNoughts tells whether all numbers of a row are 0.
func isNoughts(a api.Vec) bool {
	for _, x := range a {
		if x.Neg || len(x.Abs) > 0 {
			return false
		}
	}
	return true
}

// toldInt is a number for a message, shortened.
func toldInt(a api.Int) string {
	s := value(a).String()
	if len(s) > 24 {
		s = s[:24] + ".."
	}
	if len(a.Abs) > 0 && a.Abs[len(a.Abs)-1] == 0 {
		s += "(with a nought behind it)"
	}
	if a.Neg && len(a.Abs) == 0 {
		s = "-" + s
	}
	return s
}

// told is a row for a message, shortened.
func told(a api.Vec) string {
	var b strings.Builder
	b.WriteString("[")
	for i, x := range a {
		if i == 6 {
			b.WriteString(" ..")
			break
		}
		b.WriteString(" " + toldInt(x))
	}
	b.WriteString(" ]")
	return b.String()
}

// sameInt and same tell whether two answers are one, limb by limb.
func sameInt(a, b api.Int) bool { return a.Neg == b.Neg && slices.Equal(a.Abs, b.Abs) }

func same(a, b api.Vec) bool { return slices.EqualFunc(a, b, sameInt) }

// is holds what a call answered against a row.
func is(t *testing.T, what string, got, want api.Vec) {
	t.Helper()
	if !same(got, want) {
		t.Errorf("%s: %s; want %s", what, told(got), told(want))
	}
}

// isInt holds what a call answered against a number.
func isInt(t *testing.T, what string, got, want api.Int) {
	t.Helper()
	if !sameInt(got, want) {
		t.Errorf("%s: %s; want %s", what, toldInt(got), toldInt(want))
	}
}

// sureOf makes a function that lets answers through, and ends the test at an error.
func sureOf[Answer any](t *testing.T) func(a Answer, e api.Errno) Answer {
	return func(a Answer, e api.Errno) Answer {
		t.Helper()
		if e != api.OK {
			t.Fatalf("error %d", int(e))
		}
		return a
	}
}

// Calls of two rows, of a row and a number, and of a row, as ones that answer a row; a number is put into one, of what is asked the answer too.
type pairCall func(a, b api.Vec) (api.Vec, api.Errno)
type scaleCall func(a api.Vec, n api.Int) (api.Vec, api.Errno)
type mixCall func(m api.Int, a api.Vec, n api.Int, b api.Vec) (api.Vec, api.Errno)
type loneCall func(a api.Vec) (api.Vec, api.Errno)

// pairCalls are all calls of two rows; Mix with numbers of its own.
func pairCalls() map[string]pairCall {
	return map[string]pairCall{
		"Dot": func(a, b api.Vec) (api.Vec, api.Errno) {
			n, e := vec.Dot(a, b)
			return boxed(n), e
		},
		"Add": vec.Add,
		"Mix": func(a, b api.Vec) (api.Vec, api.Errno) {
			return vec.Mix(minus(api.Nat{3}), a, plus(api.Nat{2, 1}), b)
		},
		"Mix with 0": func(a, b api.Vec) (api.Vec, api.Errno) {
			return vec.Mix(api.Int{}, a, api.Int{}, b)
		},
		"Cmp": func(a, b api.Vec) (api.Vec, api.Errno) {
			n, e := vec.Cmp(a, b)
			return boxed(number(big.NewInt(int64(n)))), e
		},
	}
}

// loneCalls are all calls of a row alone; Scale with numbers of its own.
func loneCalls() map[string]loneCall {
	scale := func(n api.Int) loneCall {
		return func(a api.Vec) (api.Vec, api.Errno) { return vec.Scale(a, n) }
	}
	return map[string]loneCall{
		"Content": func(a api.Vec) (api.Vec, api.Errno) {
			n, e := vec.Content(a)
			return boxed(plus(n)), e
		},
		"Prime":       vec.Prime,
		"Scale by 0":  scale(api.Int{}),
		"Scale by 1":  scale(plus(api.Nat{1})),
		"Scale by -1": scale(minus(api.Nat{1})),
		"Scale by -2": scale(minus(api.Nat{2})),
		"Twin":        func(a api.Vec) (api.Vec, api.Errno) { return vec.Twin(a), api.OK },
	}
}

// boxed is a row of one number, and of 0 an empty one, so that beside an error nothing is an empty row.
func boxed(n api.Int) api.Vec {
	if sameInt(n, api.Int{}) {
		return nil
	}
	return api.Vec{n}
}

// refused checks that beside an error there is nothing.
func refused(t *testing.T, what string, got api.Vec, e, want api.Errno) {
	t.Helper()
	if e != want || len(got) != 0 {
		t.Errorf("%s: %s, error %d; want error %d", what, told(got), int(e), int(want))
	}
}
