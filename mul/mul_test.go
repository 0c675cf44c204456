package mul_test

import (
	"math"
	"math/big"
	"slices"
	"strconv"
	"testing"

	"facetroom/api"
	"facetroom/mul"
)

// The table of the chapter's examples.
func TestExamples(t *testing.T) {
	for name, by := range ways() {
		x, e := by(api.Nat{top}, api.Nat{top})
		is(t, name+" of 2^64-1 and itself", x, e, api.Nat{1, top - 1})
		x, e = by(nil, api.Nat{5})
		is(t, name+" of 0 and 5", x, e, nil)
	}
	x, e := mul.Pow(api.Nat{10}, 20)
	is(t, "Pow 10, 20", x, e, api.Nat{7766279631452241920, 5})
	x, e = mul.Pow(nil, 0)
	is(t, "Pow 0, 0", x, e, api.Nat{1})
	x, e = mul.Pow(api.Nat{2}, 1025)
	refused(t, "Pow 2, 1025", x, e, api.ErrArg)
	x, e = mul.Pow(api.Nat{0, 1}, 1024)
	refused(t, "Pow 2^64, 1024", x, e, api.ErrMany)
}

// P2.1
func TestProducts(t *testing.T) {
	for name, by := range ways() {
		for _, a := range numbers() {
			for _, b := range numbers() {
				x, e := by(a, b)
				is(t, name, x, e, product(a, b))
			}
		}
	}
}

// P2.1: nought in each place, beside numbers of every size.
func TestNought(t *testing.T) {
	for name, by := range ways() {
		for _, n := range []int{1, 2, 3, 200, 401, 1025, 3000} {
			for _, a := range sized(n) {
				for _, nought := range []api.Nat{nil, {}} {
					x, e := by(a, nought)
					is(t, name, x, e, nil)
					x, e = by(nought, a)
					is(t, name, x, e, nil)
				}
			}
		}
	}
}

// sizes are small ones, powers of two and their neighbours, odd ones, and those where Mul begins to split.
func sizes() []int {
	return []int{1, 2, 3, 4, 5, 7, 8, 9, 15, 16, 17, 31, 33, 64, 65, 127, 199, 200, 201, 255, 301, 399, 400, 401}
}

// P2.1: numbers of like and of unlike lengths.
func TestSizes(t *testing.T) {
	for _, n := range sizes() {
		for _, m := range sizes() {
			for i, a := range sized(n) {
				b := sized(m)[(i+m)%4]
				want := product(a, b)
				for name, by := range ways() {
					x, e := by(a, b)
					is(t, name+" "+strconv.Itoa(n)+" "+strconv.Itoa(m), x, e, want)
				}
			}
		}
	}
}

// P2.1: no limit is set to how long a number is, also not where nat.Up has one.
func TestLongNumbers(t *testing.T) {
	for _, c := range [][2]int{{1024, 1024}, {1025, 1}, {1025, 2}, {1025, 1025}, {2047, 3}, {2048, 2048}, {2049, 2050}, {2100, 211}, {4500, 700}, {9001, 2}} {
		for i, a := range sized(c[0]) {
			b := sized(c[1])[(i+2)%4]
			want := product(a, b)
			for name, by := range ways() {
				what := name + " " + strconv.Itoa(c[0]) + " " + strconv.Itoa(c[1])
				x, e := by(a, b)
				is(t, what, x, e, want)
				x, e = by(b, a)
				is(t, what+" turned", x, e, want)
			}
		}
	}
}

// P2.1: carries through all limbs: (2^64n - 1)(2^64m - 1) is 2^64(n+m) - 2^64n - 2^64m + 1.
func TestCarries(t *testing.T) {
	power := func(n int) *big.Int { return new(big.Int).Lsh(big.NewInt(1), uint(64*n)) }
	for n := 1; n <= 40; n++ {
		for m := 1; m <= 40; m += 3 {
			v := power(n + m)
			v.Sub(v, power(n)).Sub(v, power(m)).Add(v, big.NewInt(1))
			for name, by := range ways() {
				x, e := by(full(n), full(m))
				is(t, name, x, e, limbs(v))
			}
		}
	}
}

// P2.1: halves whose sums carry, of numbers whose low halves end in noughts.
func TestHalves(t *testing.T) {
	for n := 2; n <= 12; n++ {
		for place := 1; place < n; place++ {
			low := append(append(make(api.Nat, place-1), top), make(api.Nat, n-place)...)
			low[n-1] = top
			high := append(make(api.Nat, place), full(n-place)...)
			for _, c := range [][2]api.Nat{{low, low}, {low, high}, {high, high}, {low, full(n)}, {high, full(n)}, {high, {top}}, {high, {0, 1}}} {
				for name, by := range ways() {
					x, e := by(c[0], c[1])
					is(t, name, x, e, product(c[0], c[1]))
				}
			}
		}
	}
}

// P2.1: a number that may not be, in each place.
func TestProductsRefuse(t *testing.T) {
	for name, by := range ways() {
		for _, x := range bad() {
			for _, a := range append(numbers(), mixed(1), mixed(600)) {
				for _, pair := range [][2]api.Nat{{x, a}, {a, x}, {x, x}} {
					got, e := by(pair[0], pair[1])
					refused(t, name, got, e, api.ErrBad)
				}
			}
		}
	}
}

// P2.1
func TestPow(t *testing.T) {
	for _, a := range numbers() {
		for _, n := range []int{0, 1, 2, 3, 4, 5, 6, 7, 8, 9, 10, 15, 16, 17, 31, 100, 127, 255, 256, 257, 511, 1000, 1023, 1024} {
			got, e := mul.Pow(a, n)
			what := "Pow " + strconv.Itoa(n)
			if n*bitsOf(t, a) > 65536 {
				refused(t, what, got, e, api.ErrMany)
			} else {
				is(t, what, got, e, limbs(new(big.Int).Exp(value(a), big.NewInt(int64(n)), nil)))
			}
		}
	}
}

// P2.1: what stands at the ends of how often, and of how long.
func TestPowEnds(t *testing.T) {
	two := func(n int) api.Nat { return append(make(api.Nat, n/64), 1<<(n%64)) }
	for i, c := range []struct {
		a    api.Nat
		n    int
		want api.Nat
	}{
		{nil, 0, api.Nat{1}}, {nil, 1, nil}, {nil, 1024, nil}, {api.Nat{1}, 0, api.Nat{1}}, {api.Nat{1}, 1024, api.Nat{1}},
		{two(63), 1024, two(64512)}, {two(1023), 64, two(65472)}, {two(32767), 2, two(65534)}, {two(65535), 1, two(65535)},
		{full(1024), 1, full(1024)}, {two(65535), 0, api.Nat{1}}, {two(65536), 0, api.Nat{1}}, {full(5000), 0, api.Nat{1}},
		{two(21844), 3, two(65532)}, {two(2), 1024, two(2048)},
	} {
		got, e := mul.Pow(c.a, c.n)
		is(t, "Pow "+strconv.Itoa(i), got, e, c.want)
	}
	for i, c := range []struct {
		a api.Nat
		n int
	}{{two(64), 1024}, {two(1024), 64}, {two(32768), 2}, {two(65536), 1}, {two(21845), 3}, {two(65535), 2}, {full(5000), 1}, {full(5000), 1024}, {two(128), 509}} {
		got, e := mul.Pow(c.a, c.n)
		refused(t, "Pow "+strconv.Itoa(i), got, e, api.ErrMany)
	}
	long := slices.Repeat(api.Nat{top}, 16) // 1,024 bits, 64 times: just as long as may be
	got, e := mul.Pow(long, 64)
	is(t, "Pow 2^1024-1, 64", got, e, limbs(new(big.Int).Exp(value(long), big.NewInt(64), nil)))
	got, e = mul.Pow(api.Nat{top}, 1024)
	is(t, "Pow 2^64-1, 1024", got, e, limbs(new(big.Int).Exp(value(api.Nat{top}), big.NewInt(1024), nil)))
}

// P2.1: how often is looked at ahead of how long; a number that may not be ahead of both.
func TestPowRefuses(t *testing.T) {
	for _, n := range []int{math.MinInt, -1025, -1024, -1, 1025, 1026, 2048, 65536, 1 << 32, math.MaxInt} {
		for _, a := range append(numbers(), full(1100)) {
			got, e := mul.Pow(a, n)
			refused(t, "Pow", got, e, api.ErrArg)
		}
	}
	for _, n := range []int{math.MinInt, -1, 0, 1, 2, 1024, 1025, math.MaxInt} {
		for _, a := range bad() {
			got, e := mul.Pow(a, n)
			refused(t, "Pow", got, e, api.ErrBad)
		}
	}
}
