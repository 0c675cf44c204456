package gcd_test

import (
	"math/big"
	"slices"
	"testing"

	"facetroom/api"
	"facetroom/gcd"
	"facetroom/nat"
)

// The table of the chapter's examples, of numbers.
func TestExamples(t *testing.T) {
	sure := sureOf(t)
	is(t, "Gcd 12, 18", sure(gcd.Gcd(api.Nat{12}, api.Nat{18})), api.Nat{6})
	is(t, "Gcd 0, 5", sure(gcd.Gcd(nil, api.Nat{5})), api.Nat{5})
	is(t, "Gcd 0, 0", sure(gcd.Gcd(nil, nil)), nil)
	is(t, "Lcm 4, 6", sure(gcd.Lcm(api.Nat{4}, api.Nat{6})), api.Nat{12})
	is(t, "Lcm 0, 6", sure(gcd.Lcm(nil, api.Nat{6})), nil)
}

// common is, of two small numbers that are not both 0, the greatest one that both are multiples of, as the chapter says it: one by one, from above.
func common(a, b uint64) uint64 {
	g := max(a, b)
	for a%g != 0 || b%g != 0 {
		g--
	}
	return g
}

// least is, of two small numbers above 0, the least one that is a multiple of both: one by one, from below.
func least(a, b uint64) uint64 {
	l := a
	for l%b != 0 {
		l += a
	}
	return l
}

// P4.1: every small number with every other one.
func TestSmall(t *testing.T) {
	have(t, nil, nil, nil, nil)
	for a := uint64(1); a < 150; a++ {
		have(t, nil, nat.Of(a), nat.Of(a), nil)
		for b := uint64(1); b < 150; b++ {
			have(t, nat.Of(a), nat.Of(b), nat.Of(common(a, b)), nat.Of(least(a, b)))
		}
	}
}

// P4.1
func TestCommon(t *testing.T) {
	for _, a := range many() {
		for _, b := range many() {
			haveAs(t, a, b)
		}
	}
}

// P4.1: numbers of like and of unlike lengths, with a divisor in common, of one limb, or of several.
func TestSizes(t *testing.T) {
	sizes := []int{1, 2, 3, 4, 5, 8, 15, 16, 33, 64}
	divisors := []api.Nat{{6}, {top}, {0, 1}, {10, 0, 1}, mixed(7), full(20)}
	for i, n := range sizes {
		for j, m := range sizes {
			for k, a := range sized(n) {
				b := sized(m)[(i+j+k)%4]
				g := divisors[(i*j+k)%len(divisors)]
				haveAs(t, a, b)
				haveAs(t, product(a, g), product(b, g))
			}
		}
	}
}

// P4.1: no limit is set to how long a number is, also not where nat.Up and Down have one.
func TestLongNumbers(t *testing.T) {
	for _, c := range [][2]int{{1023, 1}, {1024, 2}, {1025, 3}, {1100, 700}, {1025, 1025}, {1300, 1300}, {6000, 2}} {
		for i, a := range sized(c[0])[:3] {
			haveAs(t, a, sized(c[1])[(i+2)%4])
		}
	}
}

// P4.1: 0 with a number, a number with itself, with 1, with a multiple of it, and with its neighbours.
func TestEnds(t *testing.T) {
	one := api.Nat{1}
	for _, zero := range []api.Nat{nil, {}} {
		have(t, zero, nil, nil, nil)
		have(t, zero, api.Nat{}, nil, nil)
	}
	for _, a := range above(append(many(), mixed(40), full(70), bare(80), gaps(90))) {
		have(t, nil, a, a, nil)
		have(t, api.Nat{}, a, a, nil)
		have(t, a, a, a, a)
		have(t, a, one, one, a)
		have(t, a, plus(a, 1), one, product(a, plus(a, 1)))
		have(t, plus(a, 1), plus(a, 2), one, product(plus(a, 1), plus(a, 2)))
		haveAs(t, a, plus(a, 2))
		haveAs(t, a, plus(a, 6))
		for _, n := range []api.Nat{{2}, {3}, {half}, {top}, {0, 1}, {top, top}, mixed(5)} {
			have(t, a, product(a, n), a, product(a, n))
		}
	}
}

// P4.1: powers of 2 with one another, with what they are short of by 1, and with powers of 3 and 6.
func TestPowers(t *testing.T) {
	one := api.Nat{1}
	for n := 0; n < 270; n += 3 {
		for m := n % 7; m < 270; m += 7 {
			a, b := power(2, n), power(2, m)
			have(t, a, b, power(2, min(n, m)), power(2, max(n, m)))
			have(t, a, power(3, m), one, product(a, power(3, m)))
			have(t, a, power(6, m), power(2, min(n, m)), product(power(2, max(n, m)), power(3, m)))
			if n > 0 && m > 0 { // of 2^n - 1 and 2^m - 1 it is 2^g - 1, with g that of n and m
				g := int(common(uint64(n), uint64(m)))
				a, b := plus(a, -1), plus(b, -1)
				have(t, a, b, plus(power(2, g), -1), multiple(a, b))
			}
		}
	}
}

// grown are two numbers of that divisor, the first one no less, from which Euclid's steps have just these quotients, the last one first.
func grown(g api.Nat, quotients ...api.Nat) (a, b api.Nat) {
	x, y := value(g), new(big.Int)
	for _, q := range quotients {
		x, y = y.Add(y, new(big.Int).Mul(x, value(q))), x
	}
	return limbs(x), limbs(y)
}

// P4.1: neighbours among Fibonacci's numbers, from which Euclid goes the most steps.
func TestMostSteps(t *testing.T) {
	one := api.Nat{1}
	for n := 1; n < 1500; n += 1 + n/40 {
		a, b := grown(one, slices.Repeat([]api.Nat{one}, n)...)
		have(t, a, b, one, product(a, b))
		c, d := grown(mixed(3), slices.Repeat([]api.Nat{one}, n)...)
		have(t, c, d, mixed(3), product(mixed(3), product(a, b)))
	}
}

// P4.1: quotients of all sizes, next to one another.
func TestQuotients(t *testing.T) {
	sizes := []api.Nat{{1}, {2}, {3}, {1 << 15}, {1<<16 - 1}, {1<<31 + 1}, {1<<32 - 1}, {1 << 32}, {half - 1}, {half}, {top - 1}, {top}, {0, 1}, {top, 1}, {0, 0, 1}, mixed(4)}
	for _, g := range []api.Nat{{1}, {30}, {half}, {top, 1}, mixed(5)} {
		for i, p := range sizes {
			for j, q := range sizes {
				row := []api.Nat{{2}, p, q, p, p, q, {1}, q, sizes[(i+j)%len(sizes)], {1}, {1}, p}
				for n := range row {
					a, b := grown(g, row[:n+1]...)
					have(t, a, b, g, multiple(a, b))
				}
			}
		}
	}
}

// P4.1: quotients in a mixed row, most of them small.
func TestMixedQuotients(t *testing.T) {
	x := uint64(0x2545f4914f6cdd1d)
	for n := range 3000 {
		var row []api.Nat
		for range 4 + n%90 {
			row = append(row, nat.Of(shuffled(&x)>>(shuffled(&x)%64)|1))
			for range shuffled(&x) % 9 {
				row = append(row, nat.Of(shuffled(&x)>>(61+shuffled(&x)%3)|1))
			}
		}
		g := nat.Of(shuffled(&x) >> (n % 64))
		if len(g) == 0 {
			g = mixed(4)
		}
		a, b := grown(g, row...)
		have(t, a, b, g, multiple(a, b))
	}
}

// edged are all numbers of so many limbs, each of which is an edge.
func edged(n int) []api.Nat {
	l := []api.Nat{nil}
	for range n {
		var longer []api.Nat
		for _, a := range l {
			for _, x := range []uint64{0, 1, half - 1, half, half + 1, top - 1, top} {
				longer = append(longer, append(slices.Clone(a), x))
			}
		}
		l = longer
	}
	return slices.DeleteFunc(l, func(a api.Nat) bool { return a[n-1] == 0 })
}

// P4.1: all pairs of edges, of two limbs and of three, where what stands below the highest bits tells.
func TestEdges(t *testing.T) {
	two := edged(2)
	for _, a := range two {
		for _, b := range two {
			haveAs(t, a, b)
		}
	}
	for i, a := range edged(3) {
		for j, b := range edged(3) {
			if (i+j)%7 == 0 {
				haveAs(t, a, b)
			}
		}
	}
}

// P4.1: pairs in a mixed row, of highest bits that are near to one another.
func TestMixed(t *testing.T) {
	x := uint64(0x9e3779b97f4a7c15)
	for n := range 40000 {
		a := make(api.Nat, 2+n%4)
		for i := range a {
			a[i] = shuffled(&x)
		}
		b := slices.Clone(a)
		for i := range b {
			if n%5 > 0 {
				b[i] = shuffled(&x)
			}
		}
		last := len(b) - 1
		a[last] = a[last]>>(n%61) | 1
		b[last] = b[last]>>(n%59) | 1
		b[last-1] ^= 1 << (n % 64)
		haveAs(t, a, b)
	}
}

// P4.1: a number that may not be, in each place.
func TestBad(t *testing.T) {
	refuse := func(a, b api.Nat) {
		t.Helper()
		for name, do := range pairCalls() {
			if x, e := do(a, b); len(x) != 0 || e != api.ErrBad {
				t.Errorf("%s %v, %v: %v, error %d", name, told(a), told(b), told(x), int(e))
			}
		}
	}
	for _, x := range bad() {
		for _, a := range append(numbers(), mixed(600)) {
			refuse(x, a)
			refuse(a, x)
		}
		for _, y := range bad() {
			refuse(x, y)
		}
	}
}
