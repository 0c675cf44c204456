package vec_test

import (
	"math/big"
	"testing"

	"facetroom/api"
	"facetroom/vec"
)

// byPlaces is a row of another's reckoning, place by place.
func byPlaces(long int, at func(i int) *big.Int) api.Vec {
	a := make(api.Vec, long)
	for i := range a {
		a[i] = number(at(i))
	}
	return a
}

// product is a times b.
func product(a, b api.Int) *big.Int { return new(big.Int).Mul(value(a), value(b)) }

// reckons holds Dot and Add against another's reckoning.
func reckons(t *testing.T, a, b api.Vec) {
	t.Helper()
	what := told(a) + ", " + told(b)
	all := new(big.Int)
	for i := range a {
		all.Add(all, product(a[i], b[i]))
	}
	isInt(t, "Dot "+what, sureOf[api.Int](t)(vec.Dot(a, b)), number(all))
	is(t, "Add "+what, sureOf[api.Vec](t)(vec.Add(a, b)), byPlaces(len(a), func(i int) *big.Int {
		return new(big.Int).Add(value(a[i]), value(b[i]))
	}))
}

// scales holds Scale against another's reckoning.
func scales(t *testing.T, a api.Vec, n api.Int) {
	t.Helper()
	got := sureOf[api.Vec](t)(vec.Scale(a, n))
	is(t, "Scale "+told(a)+", "+toldInt(n), got, byPlaces(len(a), func(i int) *big.Int { return product(a[i], n) }))
}

// mixes holds Mix against another's reckoning.
func mixes(t *testing.T, m api.Int, a api.Vec, n api.Int, b api.Vec) {
	t.Helper()
	got := sureOf[api.Vec](t)(vec.Mix(m, a, n, b))
	is(t, "Mix "+toldInt(m)+", "+told(a)+", "+toldInt(n)+", "+told(b), got, byPlaces(len(a), func(i int) *big.Int {
		return new(big.Int).Add(product(m, a[i]), product(n, b[i]))
	}))
}

// divides holds Content and Prime against another's reckoning.
func divides(t *testing.T, a api.Vec) {
	t.Helper()
	common := new(big.Int)
	for _, x := range a {
		common.GCD(nil, nil, common, new(big.Int).Abs(value(x)))
	}
	isInt(t, "Content "+told(a), plus(sureOf[api.Nat](t)(vec.Content(a))), number(common))
	is(t, "Prime "+told(a), sureOf[api.Vec](t)(vec.Prime(a)), byPlaces(len(a), func(i int) *big.Int {
		if common.Sign() == 0 {
			return common
		}
		return new(big.Int).Quo(value(a[i]), common)
	}))
}

// P7.1
func TestPairs(t *testing.T) {
	for _, long := range lengths() {
		for _, a := range rows(long) {
			for _, b := range rows(long) {
				reckons(t, a, b)
			}
		}
	}
}

// P7.1: rows of one number and of two are all there are of some.
func TestShortRows(t *testing.T) {
	for _, x := range numbers() {
		for _, y := range numbers() {
			reckons(t, api.Vec{x}, api.Vec{y})
			reckons(t, api.Vec{x, y}, api.Vec{y, x})
			reckons(t, api.Vec{x, y}, api.Vec{y, {Neg: !x.Neg && len(x.Abs) > 0, Abs: x.Abs}})
			scales(t, api.Vec{x, y}, x)
			mixes(t, x, api.Vec{y}, y, api.Vec{x})
			divides(t, api.Vec{x, y})
		}
		divides(t, api.Vec{x})
	}
}

// P7.1: small rows, of which many are across to one another.
func TestSmall(t *testing.T) {
	for i := range 125 {
		a := small(int64(i/25-2), int64(i/5%5-2), int64(i%5-2))
		for k := range 125 {
			b := small(int64(k/25-2), int64(k/5%5-2), int64(k%5-2))
			reckons(t, a, b)
			compares(t, a, b, min(1, max(-1, i-k)))
		}
	}
}

// P7.1: Scale by each number, and so by 0, by 1 and by -1.
func TestScale(t *testing.T) {
	for _, a := range allRows() {
		for _, n := range numbers() {
			scales(t, a, n)
		}
	}
	sure := sureOf[api.Vec](t)
	for _, a := range allRows() {
		is(t, "Scale by 0", sure(vec.Scale(a, api.Int{})), make(api.Vec, len(a)))
		is(t, "Scale by 1", sure(vec.Scale(a, plus(api.Nat{1}))), a)
		is(t, "Scale by -1", sure(vec.Scale(a, minus(api.Nat{1}))), opposite(a))
	}
}

// P7.1: Mix with numbers of all kinds, also with 0 in each place.
func TestMix(t *testing.T) {
	few := []api.Int{{}, plus(api.Nat{1}), minus(api.Nat{1}), plus(api.Nat{12}), minus(api.Nat{0, 1}), plus(full(3))}
	for _, long := range lengths() {
		l := rows(long)
		for i, a := range l {
			for _, b := range []api.Vec{l[(i+1)%len(l)], l[(i+7)%len(l)], a, opposite(a)} {
				for _, m := range few {
					for _, n := range few {
						mixes(t, m, a, n, b)
					}
				}
			}
		}
	}
}

// P7.1, P7.2: rows in a mixed row of words.
func TestMixed(t *testing.T) {
	x := uint64(0x2545f4914f6cdd1d)
	for range 300 {
		a := shuffledRow(&x, int(shuffled(&x)%12))
		b := shuffledRow(&x, len(a))
		n := shuffledRow(&x, 2)
		reckons(t, a, b)
		mixes(t, n[0], a, n[1], b)
		divides(t, a)
		scales(t, a, n[0])
		divides(t, sureOf[api.Vec](t)(vec.Scale(a, n[1])))
	}
}

// P7.2
func TestContent(t *testing.T) {
	for _, a := range allRows() {
		divides(t, a)
	}
}

// P7.2: rows of small numbers, in all orders; many have content 1, in some one number divides all others.
func TestContentSmall(t *testing.T) {
	for i := range 13 {
		for k := range 13 {
			for j := range 13 {
				divides(t, small(int64(i-6), int64(2*k-12), int64(15*(j-6))))
			}
		}
	}
	divides(t, small(6, 10, 15)) // each two have a common divisor, all three have not
	divides(t, small(-30, 42, 70, 105))
	divides(t, small(-30, 42, 70, 0, 210))
}

// P7.2: a number that divides all others, and a 1, in each place.
func TestContentPlaces(t *testing.T) {
	for _, abs := range sizes() {
		a := byPlaces(api.MaxVec, func(i int) *big.Int {
			return new(big.Int).Mul(value(plus(abs)), big.NewInt(int64(7*i-200)))
		})
		for i := range a {
			kept := a[i]
			for _, x := range []api.Int{plus(abs), minus(abs), {}, plus(api.Nat{1}), minus(api.Nat{1})} {
				a[i] = x
				divides(t, a)
			}
			a[i] = kept
		}
	}
}

// P7.1, P7.2: rows without numbers, nil or not.
func TestEmptyRows(t *testing.T) {
	for _, a := range rows(0) {
		for _, b := range rows(0) {
			reckons(t, a, b)
			compares(t, a, b, 0)
			mixes(t, plus(api.Nat{2}), a, minus(api.Nat{1}), b)
		}
		divides(t, a)
		scales(t, a, plus(full(3)))
	}
}

// P7.1: no limit is set to how long numbers are.
func TestLongNumbers(t *testing.T) {
	a, b := api.Vec{plus(mixed(1100)), minus(full(1030))}, api.Vec{minus(mixed(900)), minus(bare(1500))}
	reckons(t, a, b)
	reckons(t, a, opposite(a))
	scales(t, a, minus(full(1025)))
	mixes(t, plus(mixed(1026)), a, minus(full(3)), b)
	divides(t, a)
	divides(t, sureOf[api.Vec](t)(vec.Scale(a, minus(full(1025)))))
}
