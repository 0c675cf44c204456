package rat_test

import (
	"math/big"
	"slices"
	"testing"

	"facetroom/api"
	"facetroom/rat"
)

// P6.4: sums and products do not hang on their order.
func TestOrder(t *testing.T) {
	sure := sureOf[api.Rat](t)
	l := some()
	for name, do := range map[string]reckon{"Add": rat.Add, "Mul": rat.Mul} {
		for _, a := range l {
			for _, b := range l {
				is(t, name+" "+told(a)+", "+told(b), sure(do(a, b)), sure(do(b, a)))
			}
		}
	}
}

// P6.4: nor on which two are made first, and products go through sums.
func TestThree(t *testing.T) {
	sure := sureOf[api.Rat](t)
	for _, a := range few() {
		for _, b := range few() {
			ab, sum := sure(rat.Mul(a, b)), sure(rat.Add(a, b))
			less := sure(rat.Sub(a, b))
			for _, c := range few() {
				what := told(a) + ", " + told(b) + ", " + told(c)
				ac, bc := sure(rat.Mul(a, c)), sure(rat.Mul(b, c))
				is(t, "Add "+what, sure(rat.Add(sum, c)), sure(rat.Add(a, sure(rat.Add(b, c)))))
				is(t, "Mul "+what, sure(rat.Mul(ab, c)), sure(rat.Mul(a, bc)))
				is(t, "Mul of Add "+what, sure(rat.Mul(sum, c)), sure(rat.Add(ac, bc)))
				is(t, "Mul of Sub "+what, sure(rat.Mul(less, c)), sure(rat.Sub(ac, bc)))
			}
		}
	}
}

// P6.4: a quotient times the second fraction is the first one; a difference and the second one likewise.
func TestThereAndBack(t *testing.T) {
	sure := sureOf[api.Rat](t)
	l := some()
	for _, a := range l {
		for _, b := range l {
			is(t, "Sub, Add", sure(rat.Add(sure(rat.Sub(a, b)), b)), a)
			is(t, "Add, Sub", sure(rat.Sub(sure(rat.Add(a, b)), b)), a)
			if !isNought(b) {
				is(t, "Div, Mul", sure(rat.Mul(sure(rat.Div(a, b)), b)), a)
				is(t, "Mul, Div", sure(rat.Div(sure(rat.Mul(a, b)), b)), a)
				is(t, "Div and upside down", sure(rat.Div(a, b)), sure(rat.Mul(a, upsideDown(b))))
				is(t, "Sub and the opposite", sure(rat.Sub(a, b)), sure(rat.Add(a, opposite(b))))
			}
		}
	}
}

// P6.4: a fraction is the same, however it is told: num and den times one number, of either sign.
func TestToldOtherwise(t *testing.T) {
	for _, a := range fractions() {
		num, den := value(a.Num), value(plus(a.Den))
		for _, abs := range []api.Nat{{1}, {2}, {6}, {top}, {0, 1}, {1, 2, 3}, mixed(5), full(9)} {
			for _, n := range []api.Int{plus(abs), minus(abs)} {
				times := value(n)
				got := of(t, new(big.Int).Mul(num, times), new(big.Int).Mul(den, times))
				is(t, told(a)+", both times "+toldInt(n), got, a)
				if !rat.Same(got, a) {
					t.Errorf("%s, both times %s: not Same", told(a), toldInt(n))
				}
			}
		}
	}
}

// P6.4: which is less is kept by sums.
func TestLessIsKept(t *testing.T) {
	sure, sign := sureOf[api.Rat](t), sureOf[int](t)
	for _, a := range few() {
		for _, b := range few() {
			n := sign(rat.Cmp(a, b))
			if back := sign(rat.Cmp(b, a)); back != -n {
				t.Errorf("Cmp %s, %s: %d, turned %d", told(a), told(b), n, back)
			}
			if (n == 0) != rat.Same(a, b) {
				t.Errorf("%s, %s: Cmp %d, Same %v", told(a), told(b), n, rat.Same(a, b))
			}
			compares(t, sure(rat.Sub(a, b)), small(0, 1), n)
			for _, c := range few() {
				compares(t, sure(rat.Add(a, c)), sure(rat.Add(b, c)), n)
				compares(t, sure(rat.Sub(a, c)), sure(rat.Sub(b, c)), n)
				compares(t, sure(rat.Sub(c, a)), sure(rat.Sub(c, b)), -n)
			}
		}
	}
}

// P6.1: sorted by Cmp fractions rise.
func TestSorted(t *testing.T) {
	l := fractions()
	slices.SortFunc(l, func(a, b api.Rat) int { return sureOf[int](t)(rat.Cmp(a, b)) })
	for i := range l[1:] {
		if worth(l[i]).Cmp(worth(l[i+1])) > 0 {
			t.Errorf("%s ahead of %s", told(l[i]), told(l[i+1]))
		}
	}
}

// P6.2: Floor is at most the fraction, Ceil at least, and both are less than 1 off it; they are the same where it is whole, and else next to one another.
func TestRoundBeside(t *testing.T) {
	sure, whole, sign := sureOf[api.Rat](t), sureOf[api.Int](t), sureOf[int](t)
	one := small(1, 1)
	for _, a := range fractions() {
		low, high := whole(rat.Floor(a)), whole(rat.Ceil(a))
		down, up := sure(rat.Of(low, one.Num)), sure(rat.Of(high, one.Num))
		if sign(rat.Cmp(down, a)) > 0 || sign(rat.Cmp(sure(rat.Add(down, one)), a)) <= 0 {
			t.Errorf("Floor %s: %s", told(a), toldInt(low))
		}
		if sign(rat.Cmp(up, a)) < 0 || sign(rat.Cmp(sure(rat.Sub(up, one)), a)) >= 0 {
			t.Errorf("Ceil %s: %s", told(a), toldInt(high))
		}
		if slices.Equal(a.Den, api.Nat{1}) {
			is(t, "Floor of a whole number", down, a)
			is(t, "Ceil of a whole number", up, a)
		} else {
			is(t, "Ceil beside Floor of "+told(a), up, sure(rat.Add(down, one)))
		}
		other := sure(rat.Sub(small(0, 1), a))
		is(t, "Floor of the opposite of "+told(a), sure(rat.Of(whole(rat.Floor(other)), small(-1, 1).Num)), up)
	}
}
