package whole_test

import (
	"math/big"
	"testing"

	"facetroom/api"
	"facetroom/whole"
)

// floor and ceil are quotients by another's reckoning, which leaves over what is never below 0.
func floor(a, b *big.Int) *big.Int {
	if b.Sign() < 0 {
		a, b = new(big.Int).Neg(a), new(big.Int).Neg(b)
	}
	return new(big.Int).Div(a, b)
}

func ceil(a, b *big.Int) *big.Int {
	if b.Sign() > 0 {
		a, b = new(big.Int).Neg(a), new(big.Int).Neg(b)
	}
	return new(big.Int).Div(a, b)
}

// reckons holds all calls of two numbers against another's reckoning.
func reckons(t *testing.T, a, b api.Int) {
	t.Helper()
	x, y := value(a), value(b)
	want := map[string]*big.Int{"Add": new(big.Int).Add(x, y), "Sub": new(big.Int).Sub(x, y), "Mul": new(big.Int).Mul(x, y)}
	refusal := map[string]api.Errno{}
	if y.Sign() == 0 {
		refusal["Floor"], refusal["Ceil"], refusal["Exact"] = api.ErrZero, api.ErrZero, api.ErrZero
	} else {
		want["Floor"], want["Ceil"] = floor(x, y), ceil(x, y)
		if want["Floor"].Cmp(want["Ceil"]) == 0 {
			want["Exact"] = want["Floor"]
		} else {
			refusal["Exact"] = api.ErrNone
		}
	}
	for name, do := range pairCalls() {
		got, e := do(a, b)
		what := name + " " + told(a) + ", " + told(b)
		if refusal[name] != api.OK {
			refused(t, what, got, e, refusal[name])
		} else if e != api.OK || !same(got, number(want[name])) {
			t.Errorf("%s: %s, error %d; want %s", what, told(got), int(e), cut(want[name].String()))
		}
	}
}

// P5.2
func TestNeg(t *testing.T) {
	for _, a := range numbers() {
		is(t, "Neg "+told(a), sureOf(t)(whole.Neg(a)), number(new(big.Int).Neg(value(a))))
	}
	for _, n := range ints() {
		is(t, "Neg", sureOf(t)(whole.Neg(whole.Of(n))), number(new(big.Int).Neg(big.NewInt(int64(n)))))
	}
}

// P5.2, P5.3
func TestPairs(t *testing.T) {
	for _, a := range numbers() {
		for _, b := range numbers() {
			reckons(t, a, b)
		}
	}
}

// P5.2, P5.3: every small number with every other one.
func TestSmall(t *testing.T) {
	for a := -40; a <= 40; a++ {
		for b := -40; b <= 40; b++ {
			reckons(t, whole.Of(a), whole.Of(b))
		}
	}
}

// P5.2, P5.3: ints at the edges, whose sums and products leave them.
func TestInts(t *testing.T) {
	l := ints()
	for i, a := range l {
		for j := i % 7; j < len(l); j += 7 {
			reckons(t, whole.Of(a), whole.Of(l[j]))
		}
	}
}

// P5.2, P5.3: 0 in each place.
func TestNought(t *testing.T) {
	sure := sureOf(t)
	for _, nought := range noughts() {
		for _, a := range numbers() {
			is(t, "Add a, 0", sure(whole.Add(a, nought)), a)
			is(t, "Add 0, a", sure(whole.Add(nought, a)), a)
			is(t, "Sub a, 0", sure(whole.Sub(a, nought)), a)
			is(t, "Sub 0, a", sure(whole.Sub(nought, a)), sure(whole.Neg(a)))
			is(t, "Mul a, 0", sure(whole.Mul(a, nought)), api.Int{})
			is(t, "Mul 0, a", sure(whole.Mul(nought, a)), api.Int{})
			for name, do := range map[string]reckon{"Floor": whole.Floor, "Ceil": whole.Ceil, "Exact": whole.Exact} {
				got, e := do(a, nought)
				refused(t, name+" a, 0", got, e, api.ErrZero)
				if len(a.Abs) > 0 {
					is(t, name+" 0, a", sure(do(nought, a)), api.Int{})
				}
			}
		}
		is(t, "Neg 0", sure(whole.Neg(nought)), api.Int{})
	}
}

// P5.2, P5.3: a number with itself, with its opposite, and with 1 and -1.
func TestItself(t *testing.T) {
	sure := sureOf(t)
	one, less := whole.Of(1), whole.Of(-1)
	for _, a := range numbers() {
		back := sure(whole.Neg(a))
		is(t, "Sub a, a", sure(whole.Sub(a, a)), api.Int{})
		is(t, "Add a, -a", sure(whole.Add(a, back)), api.Int{})
		is(t, "Add -a, a", sure(whole.Add(back, a)), api.Int{})
		is(t, "Neg of Neg", sure(whole.Neg(back)), a)
		is(t, "Mul a, 1", sure(whole.Mul(a, one)), a)
		is(t, "Mul -1, a", sure(whole.Mul(less, a)), back)
		for name, do := range map[string]reckon{"Floor": whole.Floor, "Ceil": whole.Ceil, "Exact": whole.Exact} {
			is(t, name+" a, 1", sure(do(a, one)), a)
			is(t, name+" a, -1", sure(do(a, less)), back)
			if len(a.Abs) > 0 {
				is(t, name+" a, a", sure(do(a, a)), one)
				is(t, name+" -a, a", sure(do(back, a)), less)
				is(t, name+" a, -a", sure(do(a, back)), less)
			}
		}
	}
}

// fourSigns goes through a and b, with each pair of signs.
func fourSigns(a, b *big.Int, do func(a, b api.Int)) {
	for _, x := range []*big.Int{a, new(big.Int).Neg(a)} {
		for _, y := range []*big.Int{b, new(big.Int).Neg(b)} {
			do(number(x), number(y))
		}
	}
}

// P5.3: quotients that are whole, that just are not, and of numbers less than the second one.
func TestQuotients(t *testing.T) {
	for _, abs := range sizes()[1:] {
		b := value(plus(abs))
		for _, by := range sizes() {
			product := new(big.Int).Mul(b, value(plus(by)))
			for d := int64(-2); d <= 2; d++ {
				fourSigns(new(big.Int).Add(product, big.NewInt(d)), b, func(a, b api.Int) { reckons(t, a, b) })
			}
			fourSigns(new(big.Int).Sub(new(big.Int).Add(product, b), big.NewInt(1)), b, func(a, b api.Int) { reckons(t, a, b) })
		}
	}
}

// P5.3: of a number less than the second one nothing but 0, 1 and -1 is left.
func TestLessThanSecond(t *testing.T) {
	sure := sureOf(t)
	for _, c := range []struct{ a, b api.Nat }{{api.Nat{1}, api.Nat{2}}, {api.Nat{6}, api.Nat{7}}, {api.Nat{half}, api.Nat{top}}, {api.Nat{top}, api.Nat{0, 1}}, {api.Nat{1}, full(9)}, {mixed(5), mixed(12)}} {
		for _, p := range [][2]api.Int{{plus(c.a), plus(c.b)}, {minus(c.a), minus(c.b)}} {
			is(t, "Floor", sure(whole.Floor(p[0], p[1])), api.Int{})
			is(t, "Ceil", sure(whole.Ceil(p[0], p[1])), plus(api.Nat{1}))
		}
		for _, p := range [][2]api.Int{{plus(c.a), minus(c.b)}, {minus(c.a), plus(c.b)}} {
			is(t, "Floor", sure(whole.Floor(p[0], p[1])), minus(api.Nat{1}))
			is(t, "Ceil", sure(whole.Ceil(p[0], p[1])), api.Int{})
		}
		for _, p := range [][2]api.Int{{plus(c.a), plus(c.b)}, {minus(c.a), minus(c.b)}, {plus(c.a), minus(c.b)}, {minus(c.a), plus(c.b)}} {
			got, e := whole.Exact(p[0], p[1])
			refused(t, "Exact", got, e, api.ErrNone)
		}
	}
}

// P5.3: a quotient that is rounded to one limb more.
func TestRoundedLonger(t *testing.T) {
	sure := sureOf(t)
	twice := new(big.Int).Sub(power(2, 129), big.NewInt(1)) // by 2 it is 2^128 - 1 and a half
	want := number(power(2, 128))
	is(t, "Ceil", sure(whole.Ceil(number(twice), whole.Of(2))), want)
	is(t, "Floor", sure(whole.Floor(number(twice), whole.Of(2))), plus(full(2)))
	is(t, "Floor", sure(whole.Floor(number(twice), whole.Of(-2))), minus(want.Abs))
	is(t, "Ceil", sure(whole.Ceil(number(twice), whole.Of(-2))), minus(full(2)))
}

// P5.2, P5.3: pairs in a mixed row, of all lengths up to some.
func TestMixed(t *testing.T) {
	x := uint64(0x2545f4914f6cdd1d)
	some := func() api.Nat {
		a := make(api.Nat, 1+shuffled(&x)%6)
		for i := range a {
			a[i] = shuffled(&x) >> (shuffled(&x) % 64)
		}
		a[len(a)-1] |= 1
		return a
	}
	for range 4000 {
		fourSigns(value(plus(some())), value(plus(some())), func(a, b api.Int) { reckons(t, a, b) })
	}
}

// P5.2, P5.3: no limit is set to how long numbers are.
func TestLongNumbers(t *testing.T) {
	for _, c := range []struct{ a, b api.Nat }{{full(1025), api.Nat{1}}, {mixed(1100), full(1025)}, {full(1030), full(1030)}, {mixed(1500), mixed(700)}, {bare(1026), bare(2)}} {
		fourSigns(value(plus(c.a)), value(plus(c.b)), func(a, b api.Int) { reckons(t, a, b) })
	}
}
