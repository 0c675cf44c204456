package whole_test

import (
	"math"
	"math/big"
	"slices"
	"testing"

	"facetroom/api"
	"facetroom/whole"
)

// The table of the chapter's examples, of numbers.
func TestExamples(t *testing.T) {
	sure := sureOf(t)
	is(t, "Add -3, 5", sure(whole.Add(whole.Of(-3), whole.Of(5))), plus(api.Nat{2}))
	is(t, "Mul -3, 5", sure(whole.Mul(whole.Of(-3), whole.Of(5))), minus(api.Nat{15}))
	is(t, "Neg of 0", sure(whole.Neg(whole.Of(0))), api.Int{})
	is(t, "Floor -7, 2", sure(whole.Floor(whole.Of(-7), whole.Of(2))), minus(api.Nat{4}))
	is(t, "Ceil -7, 2", sure(whole.Ceil(whole.Of(-7), whole.Of(2))), minus(api.Nat{3}))
	is(t, "Floor 7, -2", sure(whole.Floor(whole.Of(7), whole.Of(-2))), minus(api.Nat{4}))
	noInt(t, plus(api.Nat{half}), api.ErrMany)
	anInt(t, minus(api.Nat{half}), -1<<63)
}

func anInt(t *testing.T, a api.Int, want int) {
	t.Helper()
	if n, e := whole.Int(a); n != want || e != api.OK {
		t.Errorf("Int %s: %d, error %d; want %d", told(a), n, int(e), want)
	}
}

func noInt(t *testing.T, a api.Int, want api.Errno) {
	t.Helper()
	if n, e := whole.Int(a); n != 0 || e != want {
		t.Errorf("Int %s: %d, error %d; want error %d", told(a), n, int(e), int(want))
	}
}

// P5.1
func TestCheck(t *testing.T) {
	for _, a := range numbers() {
		if e := whole.Check(a); e != api.OK {
			t.Errorf("%s: error %d", told(a), int(e))
		}
	}
	for _, a := range bad() {
		if e := whole.Check(a); e != api.ErrBad {
			t.Errorf("%s: error %d", told(a), int(e))
		}
	}
}

// ints are the edges of an int, and ints within.
func ints() []int {
	l := []int{0, math.MaxInt, math.MaxInt - 1, math.MaxInt - 2, math.MinInt, math.MinInt + 1, math.MinInt + 2}
	for i := range 63 {
		for d := -1; d <= 1; d++ {
			l = append(l, 1<<i+d, -1<<i+d)
		}
	}
	x := uint64(77)
	for range 300 {
		l = append(l, int(shuffled(&x)), int(shuffled(&x))>>40)
	}
	return l
}

// P5.1
func TestOfAndInt(t *testing.T) {
	is(t, "Of 0", whole.Of(0), api.Int{})
	is(t, "Of 2^63 - 1", whole.Of(math.MaxInt), plus(api.Nat{half - 1}))
	is(t, "Of -2^63", whole.Of(math.MinInt), minus(api.Nat{half}))
	is(t, "Of -2^63 + 1", whole.Of(math.MinInt+1), minus(api.Nat{half - 1}))
	for _, n := range ints() {
		a := whole.Of(n)
		is(t, "Of", a, number(big.NewInt(int64(n))))
		anInt(t, a, n)
	}
	for n := -300; n <= 300; n++ {
		is(t, "Of", whole.Of(n), number(big.NewInt(int64(n))))
		anInt(t, number(big.NewInt(int64(n))), n)
	}
}

// P5.1: numbers that an int just holds, and just does not.
func TestIntEnds(t *testing.T) {
	for _, a := range noughts() {
		anInt(t, a, 0)
	}
	for _, a := range numbers() {
		if v := value(a); v.IsInt64() {
			anInt(t, a, int(v.Int64()))
		} else {
			noInt(t, a, api.ErrMany)
		}
	}
	anInt(t, plus(api.Nat{half - 2}), math.MaxInt-1)
	anInt(t, plus(api.Nat{half - 1}), math.MaxInt)
	noInt(t, plus(api.Nat{half}), api.ErrMany)
	noInt(t, plus(api.Nat{half + 1}), api.ErrMany)
	anInt(t, minus(api.Nat{half - 1}), math.MinInt+1)
	anInt(t, minus(api.Nat{half}), math.MinInt)
	noInt(t, minus(api.Nat{half + 1}), api.ErrMany)
	for _, abs := range []api.Nat{{top - 1}, {top}, {0, 1}, {1, 1}, {half, 1}, {half - 1, 1}, {0, 0, 5}, full(40)} {
		noInt(t, plus(abs), api.ErrMany)
		noInt(t, minus(abs), api.ErrMany)
	}
	for _, a := range bad() {
		noInt(t, a, api.ErrBad)
	}
}

// P5.1
func TestCmp(t *testing.T) {
	for _, a := range numbers() {
		for _, b := range numbers() {
			if n, e := whole.Cmp(a, b); n != value(a).Cmp(value(b)) || e != api.OK {
				t.Errorf("%s, %s: %d, error %d", told(a), told(b), n, int(e))
			}
		}
	}
}

// P5.1
func TestSign(t *testing.T) {
	for _, a := range numbers() {
		if n, e := whole.Sign(a); n != value(a).Sign() || e != api.OK {
			t.Errorf("%s: %d, error %d", told(a), n, int(e))
		}
	}
	for _, a := range noughts() {
		if n, e := whole.Sign(a); n != 0 || e != api.OK {
			t.Errorf("0: %d, error %d", n, int(e))
		}
	}
}

// P5.1: of two rows of limbs, numbers or not, Same goes by what stands in both fields.
func TestSame(t *testing.T) {
	all := slices.Concat(numbers(), bad())
	for _, a := range all {
		for _, b := range all {
			if got := whole.Same(a, b); got != same(a, b) {
				t.Errorf("%s, %s: %v", told(a), told(b), got)
			}
		}
		if !whole.Same(a, api.Int{Neg: a.Neg, Abs: append(api.Nat{}, a.Abs...)}) {
			t.Errorf("%s and its like: not the same", told(a))
		}
		if whole.Same(a, api.Int{Neg: !a.Neg, Abs: a.Abs}) {
			t.Errorf("%s, below 0 and not: the same", told(a))
		}
		if whole.Same(a, api.Int{Neg: a.Neg, Abs: append(slices.Clone(a.Abs), 0)}) || whole.Same(api.Int{Neg: a.Neg, Abs: append(slices.Clone(a.Abs), 1)}, a) {
			t.Errorf("%s and one limb more: the same", told(a))
		}
	}
	for _, neg := range []bool{false, true} { // nil or not, a list without limbs is one
		if !whole.Same(api.Int{Neg: neg}, api.Int{Neg: neg, Abs: api.Nat{}}) {
			t.Errorf("Neg %v, no limbs, nil and not: not the same", neg)
		}
	}
}

// P5.1, P5.2, P5.4: what is no number, alone.
func TestBadAlone(t *testing.T) {
	for _, a := range bad() {
		got, e := whole.Neg(a)
		refused(t, "Neg "+told(a), got, e, api.ErrBad)
		if n, e := whole.Sign(a); n != 0 || e != api.ErrBad {
			t.Errorf("Sign %s: %d, error %d", told(a), n, int(e))
		}
		if s, e := whole.Text(a); s != "" || e != api.ErrBad {
			t.Errorf("Text %s: %q, error %d", told(a), cut(s), int(e))
		}
	}
}

// P5.1 to P5.3: what is no number, in each place, beside 0 too: that is looked for ahead of a quotient by 0.
func TestBadPairs(t *testing.T) {
	refuse := func(a, b api.Int) {
		t.Helper()
		for name, do := range pairCalls() {
			got, e := do(a, b)
			refused(t, name+" "+told(a)+", "+told(b), got, e, api.ErrBad)
		}
		if n, e := whole.Cmp(a, b); n != 0 || e != api.ErrBad {
			t.Errorf("Cmp %s, %s: %d, error %d", told(a), told(b), n, int(e))
		}
	}
	for _, x := range bad() {
		for _, a := range numbers() {
			refuse(x, a)
			refuse(a, x)
		}
		for _, y := range bad() {
			refuse(x, y)
		}
	}
}
