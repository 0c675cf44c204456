package rat_test

import (
	"math"
	"math/big"
	"slices"
	"testing"

	"facetroom/api"
	"facetroom/rat"
)

const (
	top  = math.MaxUint64
	half = 1 << 63
)

// sizes are numbers from 1 on, of one limb, of two and of many: some with common divisors, some without, some multiples of others.
func sizes() []api.Nat {
	return []api.Nat{
		{1}, {2}, {3}, {6}, {7}, {12}, {half}, {top},
		{0, 1}, {1, 1}, {0, half}, {top, top},
		{1, 2, 3}, {0, 0, 1}, mixed(4), full(9), bare(13), mixed(20),
	}
}

// mixed is a number of so many limbs, of all kinds, each time the same.
func mixed(n int) api.Nat {
	x := uint64(n)*0x9e3779b97f4a7c15 + 1
	return shuffledLimbs(&x, n)
}

// shuffledLimbs are the next ones of a row, as a number of so many limbs.
func shuffledLimbs(x *uint64, n int) api.Nat {
	a := make(api.Nat, n)
	for i := range a {
		a[i] = shuffled(x)
	}
	a[n-1] |= 1
	return a
}

// shuffled is the next one of a row of words, which is each time the same.
func shuffled(x *uint64) uint64 {
	*x ^= *x << 13
	*x ^= *x >> 7
	*x ^= *x << 17
	return *x
}

// full is the greatest number of so many limbs, bare the least one.
func full(n int) api.Nat { return slices.Repeat(api.Nat{top}, n) }
func bare(n int) api.Nat { return append(make(api.Nat, n-1), 1) }

// plus and minus are the numbers of that Abs, above 0 and below.
func plus(abs api.Nat) api.Int  { return api.Int{Abs: abs} }
func minus(abs api.Nat) api.Int { return api.Int{Neg: true, Abs: abs} }

// by is the fraction of just these fields, whatever they are.
func by(num api.Int, den ...uint64) api.Rat { return api.Rat{Num: num, Den: den} }

// noughts are both ways to write 0.
func noughts() []api.Rat { return []api.Rat{by(api.Int{}, 1), by(plus(api.Nat{}), 1)} }

// fractions are 0 and all sizes by all sizes, in lowest terms by another's reckoning, above 0 and below, each once.
func fractions() []api.Rat {
	l := noughts()
	seen := map[string]bool{}
	for _, num := range sizes() {
		for _, den := range sizes() {
			v := new(big.Rat).SetFrac(value(plus(num)), value(plus(den)))
			if s := v.String(); !seen[s] {
				seen[s] = true
				l = append(l, fraction(v), fraction(new(big.Rat).Neg(v)))
			}
		}
	}
	return l
}

// some are a part of all fractions, of each kind, for pairs.
func some() []api.Rat {
	l := few()
	for i, a := range fractions() {
		if i%9 == 0 {
			l = append(l, a)
		}
	}
	return l
}

// few are some of them, for three at a time.
func few() []api.Rat {
	l := noughts()
	for _, c := range []struct{ num, den api.Nat }{{api.Nat{1}, api.Nat{1}}, {api.Nat{1}, api.Nat{2}}, {api.Nat{2}, api.Nat{3}}, {api.Nat{3}, api.Nat{4}}, {api.Nat{35}, api.Nat{6}}, {api.Nat{7}, api.Nat{1}}, {api.Nat{top}, api.Nat{half}}, {api.Nat{1}, api.Nat{0, 1}}, {api.Nat{0, 1}, api.Nat{top}}, {full(3), bare(6)}, {mixed(5), full(2)}} {
		v := new(big.Rat).SetFrac(value(plus(c.num)), value(plus(c.den)))
		l = append(l, fraction(v), fraction(new(big.Rat).Neg(v)))
	}
	return l
}

// badNats are what is no number from 0 on.
func badNats() []api.Nat {
	return []api.Nat{{0}, {0, 0}, {1, 0}, {top, 0}, {0, 1, 0}, append(mixed(9), 0), make(api.Nat, 300)}
}

// badInts are what is no whole number.
func badInts() []api.Int {
	l := []api.Int{{Neg: true}, {Neg: true, Abs: api.Nat{}}}
	for _, abs := range badNats() {
		l = append(l, plus(abs), minus(abs))
	}
	return l
}

// bad are what is no fraction: of each thing that may not be, alone and beside others.
func bad() []api.Rat {
	l := []api.Rat{{}, {Den: api.Nat{}}, by(api.Int{Neg: true}), by(plus(api.Nat{}), 2), by(api.Int{}, 2), by(api.Int{}, top), by(api.Int{}, 0, 1), by(api.Int{}, full(9)...)}
	for _, num := range badInts() {
		l = append(l, by(num), by(num, 1), by(num, 2), by(num, 0), by(num, mixed(5)...))
	}
	for _, num := range []api.Int{{}, plus(api.Nat{1}), minus(api.Nat{1}), plus(api.Nat{2}), minus(api.Nat{top, top})} {
		l = append(l, by(num), api.Rat{Num: num, Den: api.Nat{}})
		for _, den := range badNats() {
			l = append(l, by(num, den...))
		}
	}
	for _, c := range []struct{ num, den api.Nat }{{api.Nat{2}, api.Nat{2}}, {api.Nat{2}, api.Nat{4}}, {api.Nat{4}, api.Nat{2}}, {api.Nat{6}, api.Nat{9}}, {api.Nat{top}, api.Nat{3}}, {api.Nat{0, 1}, api.Nat{2}}, {api.Nat{2}, api.Nat{0, 1}}, {full(2), full(4)}, {full(6), full(4)}, {mixed(9), mixed(9)}} {
		l = append(l, by(plus(c.num), c.den...), by(minus(c.num), c.den...))
	}
	return l
}

// value is a whole number, for another's reckoning.
func value(a api.Int) *big.Int {
	b := make([]byte, 0, 8*len(a.Abs))
	for _, x := range slices.Backward(a.Abs) {
		for i := 56; i >= 0; i -= 8 {
			b = append(b, byte(x>>i))
		}
	}
	v := new(big.Int).SetBytes(b)
	if a.Neg {
		v.Neg(v)
	}
	return v
}

// number is a whole number, of another's reckoning.
func number(v *big.Int) api.Int {
	b := new(big.Int).Abs(v).Bytes()
	a := make(api.Nat, (len(b)+7)/8)
	for i, x := range b {
		place := len(b) - 1 - i
		a[place/8] |= uint64(x) << (place % 8 * 8)
	}
	return api.Int{Neg: v.Sign() < 0, Abs: a}
}

// worth and fraction are likewise for fractions.
func worth(a api.Rat) *big.Rat {
	return new(big.Rat).SetFrac(value(a.Num), value(plus(a.Den)))
}

func fraction(v *big.Rat) api.Rat {
	return api.Rat{Num: number(v.Num()), Den: number(v.Denom()).Abs}
}

// small is the fraction num by den.
func small(num, den int64) api.Rat { return fraction(big.NewRat(num, den)) }

// upsideDown is a, which is not 0, with num and den for one another.
func upsideDown(a api.Rat) api.Rat {
	return api.Rat{Num: api.Int{Neg: a.Num.Neg, Abs: a.Den}, Den: a.Num.Abs}
}

// opposite is a, which is not 0, with its sign turned.
func opposite(a api.Rat) api.Rat {
	return api.Rat{Num: api.Int{Neg: !a.Num.Neg, Abs: a.Num.Abs}, Den: a.Den}
}

// isNought tells whether a fraction is 0.
func isNought(a api.Rat) bool { return len(a.Num.Abs) == 0 }

// toldInt is a whole number for a message, shortened.
func toldInt(a api.Int) string {
	s := value(a).String()
	if len(a.Abs) > 0 && a.Abs[len(a.Abs)-1] == 0 {
		s += " with a nought behind it"
	}
	if a.Neg && len(a.Abs) == 0 {
		s = "-" + s
	}
	return cut(s)
}

// told is a fraction for a message.
func told(a api.Rat) string { return toldInt(a.Num) + "/" + toldInt(plus(a.Den)) }

// cut is a text for a message, shortened.
func cut(s string) string {
	if len(s) > 60 {
		return s[:60] + ".."
	}
	return s
}

// sameInt and same tell whether two answers are one, limb by limb.
func sameInt(a, b api.Int) bool { return a.Neg == b.Neg && slices.Equal(a.Abs, b.Abs) }

func same(a, b api.Rat) bool { return sameInt(a.Num, b.Num) && slices.Equal(a.Den, b.Den) }

// is holds what a call answered against a fraction.
func is(t *testing.T, what string, got, want api.Rat) {
	t.Helper()
	if !same(got, want) {
		t.Errorf("%s: %s; want %s", what, told(got), told(want))
	}
}

// isInt holds what a call answered against a whole number.
func isInt(t *testing.T, what string, got, want api.Int) {
	t.Helper()
	if !sameInt(got, want) {
		t.Errorf("%s: %s; want %s", what, toldInt(got), toldInt(want))
	}
}

// refused checks that beside an error there is nothing.
func refused(t *testing.T, what string, got api.Rat, e, want api.Errno) {
	t.Helper()
	if e != want || !same(got, api.Rat{}) {
		t.Errorf("%s: %s, error %d; want error %d", what, told(got), int(e), int(want))
	}
}

// sureOf makes a function that lets answers through, and ends the test at an error.
func sureOf[Answer any](t *testing.T) func(a Answer, e api.Errno) Answer {
	return func(a Answer, e api.Errno) Answer {
		t.Helper()
		if e != api.OK {
			t.Fatalf("error %d", int(e))
		}
		return a
	}
}

type reckon func(a, b api.Rat) (api.Rat, api.Errno)

// pairCalls are all calls that reckon with two fractions.
func pairCalls() map[string]reckon {
	return map[string]reckon{"Add": rat.Add, "Sub": rat.Sub, "Mul": rat.Mul, "Div": rat.Div}
}

// roundCalls are all calls that make a whole number of a fraction.
func roundCalls() map[string]func(a api.Rat) (api.Int, api.Errno) {
	return map[string]func(a api.Rat) (api.Int, api.Errno){"Floor": rat.Floor, "Ceil": rat.Ceil}
}
