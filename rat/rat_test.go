package rat_test

import (
	"math"
	"math/big"
	"slices"
	"testing"

	"facetroom/api"
	"facetroom/rat"
)

// of is the fraction num by den, as the program makes it.
func of(t *testing.T, num, den *big.Int) api.Rat {
	t.Helper()
	return sureOf[api.Rat](t)(rat.Of(number(num), number(den)))
}

// The table of the chapter's examples.
func TestExamples(t *testing.T) {
	sure, whole := sureOf[api.Rat](t), sureOf[api.Int](t)
	n := func(n int64) api.Int { return number(big.NewInt(n)) }
	is(t, "Of 6, -4", sure(rat.Of(n(6), n(-4))), by(minus(api.Nat{3}), 2))
	is(t, "Of 0, 7", sure(rat.Of(n(0), n(7))), by(api.Int{}, 1))
	a, e := rat.Of(n(1), n(0))
	refused(t, "Of 1, 0", a, e, api.ErrZero)
	is(t, "Add 1/2, 1/3", sure(rat.Add(small(1, 2), small(1, 3))), by(plus(api.Nat{5}), 6))
	is(t, "Mul 2/3, 3/4", sure(rat.Mul(small(2, 3), small(3, 4))), by(plus(api.Nat{1}), 2))
	is(t, "Div 1/2, -1/4", sure(rat.Div(small(1, 2), small(-1, 4))), by(minus(api.Nat{2}), 1))
	compares(t, small(1, 3), small(1, 2), -1)
	isInt(t, "Floor -3/2", whole(rat.Floor(small(-3, 2))), minus(api.Nat{2}))
	isInt(t, "Ceil -3/2", whole(rat.Ceil(small(-3, 2))), minus(api.Nat{1}))
	tells(t, small(6, -4), "-3/2")
	tells(t, small(0, 7), "0")
	tells(t, small(8, -4), "-2")
}

func compares(t *testing.T, a, b api.Rat, want int) {
	t.Helper()
	if n, e := rat.Cmp(a, b); n != want || e != api.OK {
		t.Errorf("Cmp %s, %s: %d, error %d; want %d", told(a), told(b), n, int(e), want)
	}
}

// P6.1
func TestCheck(t *testing.T) {
	for _, a := range fractions() {
		if e := rat.Check(a); e != api.OK {
			t.Errorf("%s: error %d", told(a), int(e))
		}
	}
	for _, a := range bad() {
		if e := rat.Check(a); e != api.ErrBad {
			t.Errorf("%s: error %d", told(a), int(e))
		}
	}
}

// P6.1: small nums by small dens: just those in lowest terms may be.
func TestCheckSmall(t *testing.T) {
	for num := int64(-30); num <= 30; num++ {
		for den := uint64(0); den <= 30; den++ {
			want := api.ErrBad
			common := new(big.Int).GCD(nil, nil, new(big.Int).Abs(big.NewInt(num)), new(big.Int).SetUint64(den))
			if den > 0 && common.Cmp(big.NewInt(1)) == 0 {
				want = api.OK
			}
			a := by(number(big.NewInt(num)), number(new(big.Int).SetUint64(den)).Abs...)
			if e := rat.Check(a); e != want {
				t.Errorf("%s: error %d; want %d", told(a), int(e), int(want))
			}
		}
	}
}

// P6.1: a fraction whose num and den are made greater by one number may not be.
func TestCheckCommon(t *testing.T) {
	for _, a := range fractions() {
		for _, abs := range []api.Nat{{2}, {3}, {top}, {0, 1}, mixed(4), mixed(11)} {
			times := value(plus(abs))
			num, den := new(big.Int).Mul(value(a.Num), times), new(big.Int).Mul(value(plus(a.Den)), times)
			if e := rat.Check(by(number(num), number(den).Abs...)); e != api.ErrBad {
				t.Errorf("%s, both times %s: error %d", told(a), toldInt(plus(abs)), int(e))
			}
		}
	}
}

// nums are whole numbers of both signs, as arguments of Of.
func nums() []api.Int {
	l := []api.Int{{}, plus(api.Nat{})}
	for _, abs := range sizes() {
		l = append(l, plus(abs), minus(abs))
	}
	return l
}

// P6.1: Of of each number by each other one, of both signs; by 0.
func TestOf(t *testing.T) {
	sure := sureOf[api.Rat](t)
	for _, num := range nums() {
		for _, den := range nums() {
			what := "Of " + toldInt(num) + ", " + toldInt(den)
			if len(den.Abs) == 0 {
				a, e := rat.Of(num, den)
				refused(t, what, a, e, api.ErrZero)
				continue
			}
			is(t, what, sure(rat.Of(num, den)), fraction(new(big.Rat).SetFrac(value(num), value(den))))
		}
	}
}

// P6.1: Of small numbers, of which many have common divisors.
func TestOfSmall(t *testing.T) {
	for num := int64(-40); num <= 40; num++ {
		for den := int64(-40); den <= 40; den++ {
			x, y := big.NewInt(num), big.NewInt(den)
			if den != 0 {
				is(t, "Of "+x.String()+", "+y.String(), of(t, x, y), small(num, den))
			}
		}
	}
}

// P6.1: Of the edges of an int, and of whole numbers.
func TestOfEdges(t *testing.T) {
	for _, num := range []int64{math.MinInt64, math.MinInt64 + 1, -1, 0, 1, math.MaxInt64 - 1, math.MaxInt64} {
		for _, den := range []int64{math.MinInt64, math.MinInt64 + 1, -1, 1, math.MaxInt64 - 1, math.MaxInt64} {
			x, y := big.NewInt(num), big.NewInt(den)
			is(t, "Of "+x.String()+", "+y.String(), of(t, x, y), small(num, den))
		}
	}
	for _, abs := range sizes() {
		is(t, "Of a, 1", of(t, value(plus(abs)), big.NewInt(1)), by(plus(abs), 1))
		is(t, "Of a, -1", of(t, value(plus(abs)), big.NewInt(-1)), by(minus(abs), 1))
		is(t, "Of 0, a", of(t, new(big.Int), value(plus(abs))), by(api.Int{}, 1))
		is(t, "Of 0, -a", of(t, new(big.Int), value(minus(abs))), by(api.Int{}, 1))
		is(t, "Of a, a", of(t, value(plus(abs)), value(plus(abs))), by(plus(api.Nat{1}), 1))
		is(t, "Of -a, a", of(t, value(minus(abs)), value(plus(abs))), by(minus(api.Nat{1}), 1))
		is(t, "Of -a, -a", of(t, value(minus(abs)), value(minus(abs))), by(plus(api.Nat{1}), 1))
	}
}

// P6.1: Of numbers that may not be, in each place, beside 0 too: that is looked for ahead of a den of 0.
func TestOfBad(t *testing.T) {
	for _, x := range badInts() {
		for _, a := range slices.Concat(nums(), badInts()) {
			for _, c := range [][2]api.Int{{x, a}, {a, x}} {
				got, e := rat.Of(c[0], c[1])
				refused(t, "Of "+toldInt(c[0])+", "+toldInt(c[1]), got, e, api.ErrBad)
			}
		}
	}
}

// P6.1
func TestCmp(t *testing.T) {
	l := some()
	for _, a := range l {
		for _, b := range l {
			compares(t, a, b, worth(a).Cmp(worth(b)))
		}
	}
}

// P6.1: fractions that are next to one another, and such as lie on two sides of 0.
func TestCmpNear(t *testing.T) {
	for _, abs := range []api.Nat{{1}, {5}, {top}, {0, 1}, full(3), mixed(20)} {
		n := value(plus(abs))
		more := new(big.Int).Add(n, big.NewInt(1))
		most := new(big.Int).Add(more, big.NewInt(1))
		a, b := of(t, n, more), of(t, more, most)
		compares(t, a, b, -1)
		compares(t, b, a, 1)
		compares(t, a, a, 0)
		compares(t, opposite(a), opposite(b), 1)
		compares(t, opposite(a), a, -1)
		compares(t, a, opposite(a), 1)
		compares(t, upsideDown(a), upsideDown(b), 1)
		compares(t, a, small(0, 1), 1)
		compares(t, small(0, 1), a, -1)
		compares(t, opposite(a), small(0, 1), -1)
		compares(t, small(0, 1), opposite(a), 1)
	}
	for _, a := range noughts() {
		for _, b := range noughts() {
			compares(t, a, b, 0)
		}
	}
}

// P6.1: of rows of limbs, fractions or not, Same goes by what stands in all fields.
func TestSame(t *testing.T) {
	all := slices.Concat(some(), bad())
	for _, a := range all {
		for _, b := range all {
			if got := rat.Same(a, b); got != same(a, b) {
				t.Errorf("Same %s, %s: %v", told(a), told(b), got)
			}
		}
		if !rat.Same(a, cloneOf(a)) {
			t.Errorf("%s and its like: not the same", told(a))
		}
		if rat.Same(a, opposite(a)) {
			t.Errorf("%s, below 0 and not: the same", told(a))
		}
		for _, limb := range []uint64{0, 1} {
			num := api.Int{Neg: a.Num.Neg, Abs: append(slices.Clone(a.Num.Abs), limb)}
			den := append(slices.Clone(a.Den), limb)
			for _, b := range []api.Rat{{Num: num, Den: a.Den}, {Num: a.Num, Den: den}} {
				if rat.Same(a, b) || rat.Same(b, a) {
					t.Errorf("%s and one limb more: the same", told(a))
				}
			}
		}
	}
}

// P6.1: Same takes no fraction for another one of its worth, and lists without limbs for one another.
func TestSameFields(t *testing.T) {
	two := plus(api.Nat{2})
	for _, c := range [][2]api.Rat{{by(plus(api.Nat{1}), 2), by(two, 4)}, {by(api.Int{}, 1), by(api.Int{}, 2)}, {by(api.Int{}, 1), by(api.Int{Neg: true}, 1)}, {by(two, 1), by(two, 1, 0)}, {by(two), by(two, 0)}, {by(two, 3), by(plus(api.Nat{3}), 2)}} {
		if rat.Same(c[0], c[1]) || rat.Same(c[1], c[0]) {
			t.Errorf("%s, %s: the same", told(c[0]), told(c[1]))
		}
	}
	empty := api.Rat{Num: plus(api.Nat{}), Den: api.Nat{}}
	if !rat.Same(api.Rat{}, empty) || !rat.Same(empty, api.Rat{}) {
		t.Error("no limbs, nil and not: not the same")
	}
}

// P6.1, P6.2: what is no fraction, alone.
func TestBadAlone(t *testing.T) {
	for _, a := range bad() {
		for name, do := range roundCalls() {
			if got, e := do(a); e != api.ErrBad || !sameInt(got, api.Int{}) {
				t.Errorf("%s %s: %s, error %d", name, told(a), toldInt(got), int(e))
			}
		}
		if s, e := rat.Text(a); s != "" || e != api.ErrBad {
			t.Errorf("Text %s: %q, error %d", told(a), cut(s), int(e))
		}
	}
}

// P6.1, P6.2: what is no fraction, in each place, beside 0 too: that is looked for ahead of a quotient by 0.
func TestBadPairs(t *testing.T) {
	refuse := func(a, b api.Rat) {
		t.Helper()
		for name, do := range pairCalls() {
			got, e := do(a, b)
			refused(t, name+" "+told(a)+", "+told(b), got, e, api.ErrBad)
		}
		if n, e := rat.Cmp(a, b); n != 0 || e != api.ErrBad {
			t.Errorf("Cmp %s, %s: %d, error %d", told(a), told(b), n, int(e))
		}
	}
	for _, x := range bad() {
		for _, a := range few() {
			refuse(x, a)
			refuse(a, x)
		}
		for _, y := range bad() {
			refuse(x, y)
		}
	}
}
