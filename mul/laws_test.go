package mul_test

import (
	"slices"
	"testing"

	"facetroom/api"
	"facetroom/mul"
	"facetroom/nat"
)

// P2.3: products do not hang on their order.
func TestOrder(t *testing.T) {
	all := append(numbers(), mixed(40), mixed(201), full(320), gaps(450))
	for _, by := range ways() {
		sure := sureOf(t)
		for _, a := range all {
			for _, b := range all {
				if x, y := sure(by(a, b)), sure(by(b, a)); !slices.Equal(x, y) {
					t.Errorf("%v, %v: %v, %v", told(a), told(b), told(x), told(y))
				}
			}
		}
	}
}

// P2.3: products do not hang on which two are made first, and go through sums.
func TestThree(t *testing.T) {
	for name, by := range ways() {
		everyThree(t, name, by, append(numbers()[2:], nil))
		everyThree(t, name, by, []api.Nat{mixed(3), full(5), mixed(205), full(230), gaps(411), bare(300)})
	}
}

func everyThree(t *testing.T, name string, by times, l []api.Nat) {
	sure := sureOf(t)
	for _, a := range l {
		for _, b := range l {
			ab := sure(by(a, b))
			for _, c := range l {
				bc, ac := sure(by(b, c)), sure(by(a, c))
				if x, y := sure(by(ab, c)), sure(by(a, bc)); !slices.Equal(x, y) {
					t.Errorf("%s %v, %v, %v: %v, %v", name, told(a), told(b), told(c), told(x), told(y))
				}
				if x, y := sure(by(sure(nat.Add(a, b)), c)), sure(nat.Add(ac, bc)); !slices.Equal(x, y) {
					t.Errorf("%s sum of %v, %v, times %v: %v, %v", name, told(a), told(b), told(c), told(x), told(y))
				}
			}
		}
	}
}

// P2.3: a product is as long as both together, or by one less; both come up.
func TestLengths(t *testing.T) {
	all := slices.Concat(numbers(), sized(1), sized(2), sized(65), sized(256), sized(403))
	for name, by := range ways() {
		seen := map[int]int{}
		for _, a := range all {
			for _, b := range all {
				x := sureOf(t)(by(a, b))
				if len(a) == 0 || len(b) == 0 {
					if len(x) != 0 {
						t.Errorf("%s of 0: %v", name, told(x))
					}
					continue
				}
				less := bitsOf(t, a) + bitsOf(t, b) - bitsOf(t, x)
				if less != 0 && less != 1 {
					t.Errorf("%s %v, %v: less by %d", name, told(a), told(b), less)
				}
				seen[less]++
			}
		}
		if seen[0] == 0 || seen[1] == 0 {
			t.Errorf("%s: as long as both %d times, by one less %d times", name, seen[0], seen[1])
		}
	}
	for _, c := range []struct {
		a, b api.Nat
		long int
	}{{api.Nat{1}, api.Nat{1}, 1}, {api.Nat{3}, api.Nat{3}, 4}, {api.Nat{0, 1}, api.Nat{0, 1}, 129}, {full(1), full(1), 128}, {full(2), full(3), 320}, {bare(2), bare(3), 193}, {api.Nat{1 << 63}, api.Nat{1 << 63}, 127}} {
		for name, by := range ways() {
			if n := bitsOf(t, sureOf(t)(by(c.a, c.b))); n != c.long {
				t.Errorf("%s %v, %v: %d long, want %d", name, c.a, c.b, n, c.long)
			}
		}
	}
}

// P2.3: the power of a sum of n and m is the product of those of n and of m.
func TestPowers(t *testing.T) {
	sure := sureOf(t)
	for _, a := range []api.Nat{nil, {1}, {2}, {3}, {10}, {1 << 32}, {top - 1}, {top}} {
		for _, n := range []int{0, 1, 2, 3, 7, 16, 100, 511, 512} {
			for _, m := range []int{0, 1, 2, 5, 31, 64, 99, 256, 512} {
				both := sure(mul.Pow(a, n+m))
				for name, by := range ways() {
					if x := sure(by(sure(mul.Pow(a, n)), sure(mul.Pow(a, m)))); !slices.Equal(x, both) {
						t.Errorf("%s %v, %d, %d: %v, %v", name, a, n, m, told(x), told(both))
					}
				}
			}
		}
	}
}

// P2.3: a power is the number, multiplied with itself so often.
func TestPowersOneByOne(t *testing.T) {
	sure := sureOf(t)
	for _, a := range append(numbers(), full(20)) {
		want := api.Nat{1}
		for n := range 40 {
			if x := sure(mul.Pow(a, n)); !slices.Equal(x, want) {
				t.Errorf("%v, %d: %v, %v", told(a), n, told(x), told(want))
			}
			want = sure(mul.School(want, a))
		}
	}
}
