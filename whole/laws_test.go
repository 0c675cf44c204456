package whole_test

import (
	"slices"
	"testing"

	"facetroom/api"
	"facetroom/whole"
)

// P5.6: sums and products do not hang on their order.
func TestOrder(t *testing.T) {
	for name, do := range map[string]reckon{"Add": whole.Add, "Mul": whole.Mul} {
		sure := sureOf(t)
		for _, a := range numbers() {
			for _, b := range numbers() {
				is(t, name+" "+told(a)+", "+told(b), sure(do(a, b)), sure(do(b, a)))
			}
		}
	}
}

// P5.6: nor on which two are made first, and products go through sums.
func TestThree(t *testing.T) {
	sure := sureOf(t)
	for _, a := range few() {
		for _, b := range few() {
			ab, sum := sure(whole.Mul(a, b)), sure(whole.Add(a, b))
			less := sure(whole.Sub(a, b))
			for _, c := range few() {
				what := told(a) + ", " + told(b) + ", " + told(c)
				ac, bc := sure(whole.Mul(a, c)), sure(whole.Mul(b, c))
				is(t, "Add "+what, sure(whole.Add(sum, c)), sure(whole.Add(a, sure(whole.Add(b, c)))))
				is(t, "Mul "+what, sure(whole.Mul(ab, c)), sure(whole.Mul(a, bc)))
				is(t, "Mul of Add "+what, sure(whole.Mul(sum, c)), sure(whole.Add(ac, bc)))
				is(t, "Mul of Sub "+what, sure(whole.Mul(less, c)), sure(whole.Sub(ac, bc)))
			}
		}
	}
}

// P5.6: what is added and taken away again is as it was; a difference is a sum with the opposite.
func TestThereAndBack(t *testing.T) {
	sure := sureOf(t)
	for _, a := range numbers() {
		for _, b := range numbers() {
			is(t, "Add, Sub", sure(whole.Sub(sure(whole.Add(a, b)), b)), a)
			is(t, "Sub, Add", sure(whole.Add(sure(whole.Sub(a, b)), b)), a)
			is(t, "Sub and Neg", sure(whole.Sub(a, b)), sure(whole.Add(a, sure(whole.Neg(b)))))
			if len(b.Abs) > 0 {
				for name, do := range map[string]reckon{"Floor": whole.Floor, "Ceil": whole.Ceil, "Exact": whole.Exact} {
					is(t, "Mul, "+name, sure(do(sure(whole.Mul(a, b)), b)), a)
				}
			}
		}
	}
}

// everyQuotient goes through many pairs, the second one not 0, of which some quotients are whole.
func everyQuotient(t *testing.T, do func(a, b api.Int)) {
	sure := sureOf(t)
	for i, a := range numbers() {
		for _, b := range numbers() {
			if len(b.Abs) == 0 {
				continue
			}
			do(a, b)
			product := sure(whole.Mul(a, b))
			do(sure(whole.Add(product, whole.Of(i%3-1))), b)
		}
	}
}

// P5.6: rounded down, times the second number, with what is left over, that is the first one; what is left over is less than the second number, and of its sign.
func TestLeftOver(t *testing.T) {
	sure, sign := sureOf(t), sureSign(t)
	everyQuotient(t, func(a, b api.Int) {
		product := sure(whole.Mul(sure(whole.Floor(a, b)), b))
		rest := sure(whole.Sub(a, product))
		if s := sign(whole.Sign(rest)); s != 0 && s != sign(whole.Sign(b)) {
			t.Errorf("%s by %s: %s left over", told(a), told(b), told(rest))
		}
		if value(rest).CmpAbs(value(b)) >= 0 {
			t.Errorf("%s by %s: %s left over", told(a), told(b), told(rest))
		}
		if !b.Neg && sign(whole.Cmp(product, a)) > 0 {
			t.Errorf("%s by %s: %s is more", told(a), told(b), told(product))
		}
		over := sure(whole.Sub(sure(whole.Mul(sure(whole.Ceil(a, b)), b)), a))
		if s := sign(whole.Sign(over)); s != 0 && s != sign(whole.Sign(b)) || value(over).CmpAbs(value(b)) >= 0 {
			t.Errorf("%s by %s, rounded up: %s too much", told(a), told(b), told(over))
		}
	})
}

// P5.6: rounded up and down are one another's opposite; they are the same where the quotient is whole, and else next to one another.
func TestUpAndDown(t *testing.T) {
	sure := sureOf(t)
	seen := map[api.Errno]int{}
	everyQuotient(t, func(a, b api.Int) {
		what := told(a) + " by " + told(b)
		down, up := sure(whole.Floor(a, b)), sure(whole.Ceil(a, b))
		other, around := sure(whole.Neg(a)), sure(whole.Neg(b))
		is(t, what, up, sure(whole.Neg(sure(whole.Floor(other, b)))))
		is(t, what, up, sure(whole.Neg(sure(whole.Floor(a, around)))))
		is(t, what, down, sure(whole.Neg(sure(whole.Ceil(other, b)))))
		is(t, what, down, sure(whole.Floor(other, around)))
		is(t, what, up, sure(whole.Ceil(other, around)))
		exact, e := whole.Exact(a, b)
		seen[e]++
		if e == api.OK {
			is(t, what, down, exact)
			is(t, what, up, exact)
			return
		}
		refused(t, what, exact, e, api.ErrNone)
		is(t, what, up, sure(whole.Add(down, whole.Of(1))))
	})
	if seen[api.OK] == 0 || seen[api.ErrNone] == 0 {
		t.Errorf("whole %d times, not %d times", seen[api.OK], seen[api.ErrNone])
	}
}

// P5.6: which is less is the sign of the difference.
func TestLess(t *testing.T) {
	sign := sureSign(t)
	for _, a := range numbers() {
		for _, b := range numbers() {
			n := sign(whole.Cmp(a, b))
			if d := sign(whole.Sign(sureOf(t)(whole.Sub(a, b)))); d != n {
				t.Errorf("%s, %s: %d, difference %d", told(a), told(b), n, d)
			}
			if back := sign(whole.Cmp(b, a)); back != -n {
				t.Errorf("%s, %s: %d, turned %d", told(a), told(b), n, back)
			}
			if (n == 0) != whole.Same(a, b) {
				t.Errorf("%s, %s: %d, Same %v", told(a), told(b), n, whole.Same(a, b))
			}
		}
	}
}

// P5.1: sorted by Cmp numbers rise.
func TestSorted(t *testing.T) {
	l := numbers()
	slices.SortFunc(l, func(a, b api.Int) int { return sureSign(t)(whole.Cmp(a, b)) })
	for i := range l[1:] {
		if value(l[i]).Cmp(value(l[i+1])) > 0 {
			t.Errorf("%s ahead of %s", told(l[i]), told(l[i+1]))
		}
	}
}

// P5.4: Text and Parse, one behind the other, both ways.
func TestTextAndParse(t *testing.T) {
	for _, a := range numbers() {
		s, e := whole.Text(a)
		if e != api.OK {
			t.Fatalf("%s: error %d", told(a), int(e))
		}
		is(t, "Parse "+cut(s), sureOf(t)(whole.Parse(s)), a)
	}
	for _, s := range []string{"0", "1", "-1", "9", "-10", "100000000000000000000", "-18446744073709551615", "-18446744073709551616", "9223372036854775808", "-9223372036854775808", "-340282366920938463463374607431768211456"} {
		if got, e := whole.Text(sureOf(t)(whole.Parse(s))); got != s || e != api.OK {
			t.Errorf("%s: %s, error %d", s, got, int(e))
		}
	}
}
