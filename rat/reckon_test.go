package rat_test

import (
	"math/big"
	"testing"

	"facetroom/api"
	"facetroom/rat"
)

// reckons holds all calls of two fractions against another's reckoning.
func reckons(t *testing.T, a, b api.Rat) {
	t.Helper()
	x, y := worth(a), worth(b)
	want := map[string]*big.Rat{"Add": new(big.Rat).Add(x, y), "Sub": new(big.Rat).Sub(x, y), "Mul": new(big.Rat).Mul(x, y)}
	if y.Sign() != 0 {
		want["Div"] = new(big.Rat).Quo(x, y)
	}
	for name, do := range pairCalls() {
		got, e := do(a, b)
		what := name + " " + told(a) + ", " + told(b)
		if v, ok := want[name]; !ok {
			refused(t, what, got, e, api.ErrZero)
		} else if e != api.OK || !same(got, fraction(v)) {
			t.Errorf("%s: %s, error %d; want %s", what, told(got), int(e), cut(v.String()))
		}
	}
}

// P6.2
func TestPairs(t *testing.T) {
	l := some()
	for _, a := range l {
		for _, b := range l {
			reckons(t, a, b)
		}
	}
}

// P6.2: every small fraction with every other one.
func TestSmall(t *testing.T) {
	var l []api.Rat
	for num := int64(-9); num <= 9; num++ {
		for den := int64(1); den <= 9; den++ {
			l = append(l, small(num, den))
		}
	}
	for _, a := range l {
		for _, b := range l {
			reckons(t, a, b)
		}
	}
}

// P6.2: fractions in a mixed row, of all lengths up to some, many of whose nums and dens have common divisors with one another's.
func TestMixed(t *testing.T) {
	x := uint64(0x2545f4914f6cdd1d)
	part := func() *big.Int { return value(plus(shuffledLimbs(&x, int(1+shuffled(&x)%5)))) }
	for range 600 {
		shared, other := part(), part()
		times := func(a, b *big.Int) *big.Int { return new(big.Int).Mul(a, b) }
		for _, c := range [][4]*big.Int{
			{part(), part(), part(), part()},
			{times(part(), shared), part(), part(), times(part(), shared)},
			{part(), times(part(), shared), part(), times(part(), shared)},
			{times(part(), shared), times(part(), other), times(part(), other), times(part(), shared)},
			{times(part(), shared), times(part(), other), times(part(), shared), times(part(), other)},
		} {
			a, b := fraction(new(big.Rat).SetFrac(c[0], c[1])), fraction(new(big.Rat).SetFrac(c[2], c[3]))
			reckons(t, a, b)
			reckons(t, opposite(a), b)
			reckons(t, a, opposite(b))
			reckons(t, opposite(a), opposite(b))
		}
	}
}

// P6.2: 0 in each place.
func TestNought(t *testing.T) {
	sure := sureOf[api.Rat](t)
	for _, nought := range noughts() {
		for _, a := range fractions() {
			is(t, "Add a, 0", sure(rat.Add(a, nought)), a)
			is(t, "Add 0, a", sure(rat.Add(nought, a)), a)
			is(t, "Sub a, 0", sure(rat.Sub(a, nought)), a)
			is(t, "Mul a, 0", sure(rat.Mul(a, nought)), by(api.Int{}, 1))
			is(t, "Mul 0, a", sure(rat.Mul(nought, a)), by(api.Int{}, 1))
			got, e := rat.Div(a, nought)
			refused(t, "Div "+told(a)+", 0", got, e, api.ErrZero)
			if isNought(a) {
				is(t, "Sub 0, 0", sure(rat.Sub(nought, a)), by(api.Int{}, 1))
				continue
			}
			is(t, "Sub 0, a", sure(rat.Sub(nought, a)), opposite(a))
			is(t, "Div 0, a", sure(rat.Div(nought, a)), by(api.Int{}, 1))
		}
	}
}

// P6.2: a fraction with itself, with its opposite, upside down, and with 1 and -1.
func TestItself(t *testing.T) {
	sure := sureOf[api.Rat](t)
	one, less, two, nought := small(1, 1), small(-1, 1), small(2, 1), small(0, 1)
	for _, a := range fractions() {
		if isNought(a) {
			continue
		}
		back, down := opposite(a), upsideDown(a)
		is(t, "Sub a, a", sure(rat.Sub(a, a)), nought)
		is(t, "Add a, -a", sure(rat.Add(a, back)), nought)
		is(t, "Add -a, a", sure(rat.Add(back, a)), nought)
		is(t, "Add a, a", sure(rat.Add(a, a)), sure(rat.Mul(two, a)))
		is(t, "Sub a, -a", sure(rat.Sub(a, back)), sure(rat.Mul(a, two)))
		is(t, "Mul a, 1", sure(rat.Mul(a, one)), a)
		is(t, "Mul 1, a", sure(rat.Mul(one, a)), a)
		is(t, "Mul -1, a", sure(rat.Mul(less, a)), back)
		is(t, "Mul a, 1/a", sure(rat.Mul(a, down)), one)
		is(t, "Mul 1/a, -a", sure(rat.Mul(down, back)), less)
		is(t, "Div a, 1", sure(rat.Div(a, one)), a)
		is(t, "Div a, -1", sure(rat.Div(a, less)), back)
		is(t, "Div 1, a", sure(rat.Div(one, a)), down)
		is(t, "Div -1, a", sure(rat.Div(less, a)), opposite(down))
		is(t, "Div a, a", sure(rat.Div(a, a)), one)
		is(t, "Div a, -a", sure(rat.Div(a, back)), less)
		is(t, "Div a, 1/a", sure(rat.Div(a, down)), sure(rat.Mul(a, a)))
	}
}

// P6.2: whole numbers stay whole in sums and products, and just some quotients do.
func TestWholeNumbers(t *testing.T) {
	for _, num := range nums() {
		for _, other := range nums() {
			reckons(t, by(num, 1), by(other, 1))
		}
	}
}

// rounds holds Floor and Ceil against another's reckoning, which leaves over what is never below 0.
func rounds(t *testing.T, a api.Rat) {
	t.Helper()
	num, den := value(a.Num), value(plus(a.Den))
	down := new(big.Int).Div(num, den)
	up := new(big.Int).Neg(new(big.Int).Div(new(big.Int).Neg(num), den))
	isInt(t, "Floor "+told(a), sureOf[api.Int](t)(rat.Floor(a)), number(down))
	isInt(t, "Ceil "+told(a), sureOf[api.Int](t)(rat.Ceil(a)), number(up))
}

// P6.2
func TestRound(t *testing.T) {
	for _, a := range fractions() {
		rounds(t, a)
	}
	for num := int64(-60); num <= 60; num++ {
		for den := int64(1); den <= 15; den++ {
			rounds(t, small(num, den))
		}
	}
	for _, num := range nums() {
		isInt(t, "Floor of a whole number", sureOf[api.Int](t)(rat.Floor(by(num, 1))), num)
		isInt(t, "Ceil of a whole number", sureOf[api.Int](t)(rat.Ceil(by(num, 1))), num)
	}
}

// P6.2: fractions just below whole numbers, and just above.
func TestRoundNear(t *testing.T) {
	whole := sureOf[api.Int](t)
	one := big.NewInt(1)
	for _, abs := range sizes()[1:] {
		den := value(plus(abs))
		for _, size := range sizes() {
			for _, n := range []*big.Int{value(plus(size)), value(minus(size)), new(big.Int)} {
				product := new(big.Int).Mul(n, den)
				above := of(t, new(big.Int).Add(product, one), den)
				isInt(t, "Floor "+told(above), whole(rat.Floor(above)), number(n))
				isInt(t, "Ceil "+told(above), whole(rat.Ceil(above)), number(new(big.Int).Add(n, one)))
				below := of(t, new(big.Int).Sub(product, one), den)
				isInt(t, "Ceil "+told(below), whole(rat.Ceil(below)), number(n))
				isInt(t, "Floor "+told(below), whole(rat.Floor(below)), number(new(big.Int).Sub(n, one)))
			}
		}
	}
}

// P6.2: no limit is set to how long numbers are.
func TestLongNumbers(t *testing.T) {
	long := fraction(new(big.Rat).SetFrac(value(minus(mixed(1100))), value(plus(full(1025)))))
	for _, a := range []api.Rat{long, upsideDown(long), by(plus(full(1030)), 1), by(minus(api.Nat{1}), bare(1026)...)} {
		reckons(t, a, small(-2, 3))
		reckons(t, small(5, 1), a)
		compares(t, a, small(1, 1), worth(a).Cmp(big.NewRat(1, 1)))
		rounds(t, a)
	}
	reckons(t, long, by(plus(full(1026)), 2))
}
