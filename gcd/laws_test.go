package gcd_test

import (
	"slices"
	"strings"
	"testing"

	"facetroom/api"
	"facetroom/div"
	"facetroom/gcd"
	"facetroom/mul"
)

// divides tells whether a is a multiple of d.
func divides(d, a api.Nat) bool {
	if len(d) == 0 {
		return len(a) == 0
	}
	_, e := div.Exact(a, d)
	return e == api.OK
}

// everyTwo goes through all pairs of many numbers, as they are, and with a divisor in common.
func everyTwo(do func(a, b api.Nat)) {
	for i, a := range many() {
		for j, b := range many() {
			do(a, b)
			if g := mixed(1 + (i+j)%3); (i+j)%5 == 0 {
				do(product(a, g), product(b, g))
			}
		}
	}
}

// P4.4: divided by the greatest common divisor two numbers have none but 1; it divides both.
func TestNoneButOne(t *testing.T) {
	sure := sureOf(t)
	everyTwo(func(a, b api.Nat) {
		g := sure(gcd.Gcd(a, b))
		if len(g) == 0 {
			if len(a)+len(b) > 0 {
				t.Errorf("Gcd %v, %v is 0", told(a), told(b))
			}
			return
		}
		x, y := sure(div.Exact(a, g)), sure(div.Exact(b, g))
		is(t, "Gcd of what is left", sure(gcd.Gcd(x, y)), api.Nat{1})
	})
}

// P4.1: what divides both divides Gcd, and what both divide Lcm does.
func TestWhatDivides(t *testing.T) {
	sure := sureOf(t)
	few := []api.Nat{{1}, {2}, {3}, {4}, {6}, {7}, {10}, {1 << 32}, {half}, {top}, {0, 1}, {6, 0, 1}, power(2, 90), power(3, 50)}
	for _, a := range few {
		for _, b := range few {
			for _, d := range few {
				x, y := product(a, d), product(b, d)
				g, l := sure(gcd.Gcd(x, y)), sure(gcd.Lcm(x, y))
				if !divides(g, x) || !divides(g, y) || !divides(d, g) {
					t.Errorf("Gcd %v, %v: %v, with %v in common", told(x), told(y), told(g), told(d))
				}
				if !divides(x, l) || !divides(y, l) || !divides(l, product(product(a, b), d)) {
					t.Errorf("Lcm %v, %v: %v, with %v in common", told(x), told(y), told(l), told(d))
				}
				for _, n := range few {
					if divides(n, x) && divides(n, y) != divides(n, g) {
						t.Errorf("Gcd %v, %v: %v, and %v", told(x), told(y), told(g), told(n))
					}
				}
			}
		}
	}
}

// P4.4: both together make the product.
func TestProduct(t *testing.T) {
	sure := sureOf(t)
	everyTwo(func(a, b api.Nat) {
		g, l := sure(gcd.Gcd(a, b)), sure(gcd.Lcm(a, b))
		is(t, "Gcd times Lcm", sure(mul.Mul(g, l)), sure(mul.Mul(a, b)))
	})
}

// P4.4: a number as a text is parsed as it was.
func TestThere(t *testing.T) {
	for _, a := range slices.Concat(many(), sized(50), sized(211), sized(212)) {
		s := sureText(t)(gcd.Text(a))
		is(t, "Parse "+cut(s), sureOf(t)(gcd.Parse(s)), a)
	}
}

// P4.4: what is parsed is that text.
func TestAndBack(t *testing.T) {
	back := func(s string) {
		t.Helper()
		if got := sureText(t)(gcd.Text(sureOf(t)(gcd.Parse(s)))); got != s {
			t.Errorf("%q (%d bytes): %q (%d bytes)", cut(s), len(s), cut(got), len(got))
		}
	}
	back("0")
	for first := '1'; first <= '9'; first++ {
		for n := range 85 {
			for _, d := range []string{"0", "1", "9", "40", "0000000000000000001"} {
				back(string(first) + strings.Repeat(d, n))
			}
		}
	}
	for _, n := range []int{1000, 4094, 4095} {
		for _, d := range []string{"0", "5", "9"} {
			back("1" + strings.Repeat(d, n))
		}
	}
}
