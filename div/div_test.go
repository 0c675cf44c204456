package div_test

import (
	"math/big"
	"slices"
	"testing"

	"facetroom/api"
	"facetroom/div"
	"facetroom/nat"
)

// The table of the chapter's examples.
func TestExamples(t *testing.T) {
	divides(t, api.Nat{100}, api.Nat{7}, api.Nat{14}, api.Nat{2})
	divides(t, api.Nat{5}, api.Nat{0, 1}, nil, api.Nat{5})
	divides(t, api.Nat{0, 0, 1}, api.Nat{1, 1}, api.Nat{top}, api.Nat{1})
	for name, by := range ways() {
		if q, r, e := by(api.Nat{1}, nil); len(q) != 0 || len(r) != 0 || e != api.ErrZero {
			t.Errorf("%s 1, 0: %v, %v, error %d", name, q, r, int(e))
		}
	}
	if q, e := div.Exact(api.Nat{42}, api.Nat{6}); !slices.Equal(q, api.Nat{7}) || e != api.OK {
		t.Errorf("42, 6: %v, error %d", q, int(e))
	}
	if q, e := div.Exact(api.Nat{43}, api.Nat{6}); len(q) != 0 || e != api.ErrNone {
		t.Errorf("43, 6: %v, error %d", q, int(e))
	}
}

// P3.1
func TestQuotients(t *testing.T) {
	for _, a := range numbers() {
		for _, b := range above(numbers()) {
			dividesAs(t, a, b)
		}
	}
}

// P3.1: every small number by every other one.
func TestSmall(t *testing.T) {
	for a := range uint64(130) {
		for b := uint64(1); b < 130; b++ {
			divides(t, nat.Of(a), nat.Of(b), nat.Of(a/b), nat.Of(a%b))
			if q, r, e := div.Word(nat.Of(a), b); !slices.Equal(q, nat.Of(a/b)) || r != a%b || e != api.OK {
				t.Errorf("Word %d, %d: %v, %d, error %d", a, b, q, r, int(e))
			}
		}
	}
}

// P3.1: numbers of like and of unlike lengths.
func TestSizes(t *testing.T) {
	sizes := []int{1, 2, 3, 4, 5, 7, 8, 9, 16, 31, 32, 33, 64, 65}
	for _, n := range sizes {
		for _, m := range sizes {
			for _, a := range sized(n) {
				for _, b := range sized(m) {
					dividesAs(t, a, b)
				}
			}
		}
	}
}

// P3.1: no limit is set to how long a number is, also not where nat.Up has one.
func TestLongNumbers(t *testing.T) {
	for _, c := range [][2]int{{1023, 1}, {1024, 2}, {1024, 512}, {1024, 1024}, {1025, 1}, {1025, 3}, {1025, 1024}, {1100, 1099}, {2050, 1}, {2051, 2}, {1, 1025}, {3, 5000}} {
		for i, a := range sized(c[0]) {
			dividesAs(t, a, sized(c[1])[(i+2)%4])
		}
	}
	for _, c := range [][2]int{{4000, 2000}, {9001, 2}, {5000, 4999}} { // Long would take its time
		for i, a := range sized(c[0]) {
			b := sized(c[1])[(i+2)%4]
			x, y := quotient(a, b)
			q, r, e := div.Div(a, b)
			well(t, e)
			is(t, "q", q, x)
			is(t, "r", r, y)
		}
	}
}

// P3.1: 0 by a number, a number by itself, by 1, by greater ones, and one that is greater by 1.
func TestEnds(t *testing.T) {
	one := api.Nat{1}
	for _, a := range above(append(numbers(), mixed(40), full(70), bare(80), gaps(90))) {
		more := made(a, one, one)
		divides(t, nil, a, nil, nil)
		divides(t, api.Nat{}, a, nil, nil)
		divides(t, a, a, one, nil)
		divides(t, a, one, a, nil)
		divides(t, a, more, nil, a)
		divides(t, a, append(make(api.Nat, len(a)), 1), nil, a)
		divides(t, a, append(slices.Clone(a), half), nil, a)
		if len(a) > 1 || a[0] > 1 {
			divides(t, more, a, one, one)
			divides(t, lessOne(a), a, nil, lessOne(a))
		}
	}
}

// P3.1, P3.3: each limb of the quotient at its edges, and what is left over from 0 to the second number less 1.
func TestQuotientsAtEdges(t *testing.T) {
	edges := []uint64{0, 1, 2, half - 1, half, top - 1, top}
	seconds := []api.Nat{{1}, {2}, {3}, {half}, {top}, {0, 1}, {1, 1}, {top, 1}, {0, half}, {top, half}, {top, half - 1}, {top, top}, {0, 0, 1}, {1, 0, 1}, {0, top, 1}, {top, 0, half}, {top, top, half}, {top, top, top}, gaps(9), mixed(6)}
	for _, b := range seconds {
		less := lessOne(b)
		mid := limbs(new(big.Int).Rsh(value(b), 1))
		for _, low := range edges {
			for _, middle := range edges {
				for _, high := range edges {
					q := limbs(value(api.Nat{low, middle, high}))
					for _, r := range []api.Nat{nil, mid, less} {
						divides(t, made(q, b, r), b, q, r)
					}
				}
			}
		}
	}
}

// guess is what the first two limbs of a (as the last one's place is in b) by the first one of b make, at most a limb; a is less than b, raised by a limb, and the last limb of b has its highest bit.
func guess(a, b api.Nat) *big.Int {
	n := uint(64 * (len(b) - 1))
	g := new(big.Int).Rsh(value(a), n)
	g.Quo(g, value(b[len(b)-1:]))
	if most := value(api.Nat{top}); g.Cmp(most) > 0 {
		return most
	}
	return g
}

// guesses are numbers at whose quotient, one limb, the guess is right, or too great by 1, or by 2.
func guesses() [][2]api.Nat {
	return [][2]api.Nat{
		{{0, 0, 0x123}, {5, half}}, {{0, 0, half - 1}, {0, half}}, {{0, 0, top}, {1, top}},
		{{0, 1, top - 1}, {1, top}}, {{0, top}, {1, top}}, {{0, half, half - 1}, {1, top}},
		{{0, 0, top - 1}, {top, top - 1}}, {{0, 0, half}, {top, half}}, {{1, 2, half}, {top, half}},
		{{0, 0, half - 1}, {top, half}}, {{0, 1, half - 1}, {top, half}}, {{0, half, half - 1}, {top, half}},
		{{0, 0, 0, half - 1}, {0, top, half}}, {{0, 0, 0, half - 1}, {top, top, half}}, {{top, 0, 0, 0, half - 1}, {1, 0, top, half}},
	}
}

// P3.1: guesses that are right, too great by 1, and by 2, of the quotient's highest limb, of a lowest and of a middle one, and of numbers that have to be shifted up.
func TestGuesses(t *testing.T) {
	seen := map[int64]int{}
	for _, c := range guesses() {
		a, b := c[0], c[1]
		q, r := quotient(a, b)
		seen[new(big.Int).Sub(guess(a, b), value(q)).Int64()]++
		divides(t, a, b, q, r)
		for n := range 4 {
			dividesAs(t, append(make(api.Nat, n), a...), b)
			dividesAs(t, append(mixed(n + 1)[1:], a...), b)
		}
		for shift := range uint(64) {
			x, y := new(big.Int).Rsh(value(a), shift), new(big.Int).Rsh(value(b), shift)
			dividesAs(t, limbs(x), limbs(y))
			dividesAs(t, limbs(x.Lsh(x, 64)), limbs(y))
		}
	}
	if seen[0] == 0 || seen[1] == 0 || seen[2] == 0 || len(seen) != 3 {
		t.Errorf("guesses are too great by: %v", seen)
	}
}

// P3.1: the same of all edges of three limbs by two.
func TestGuessesOfEdges(t *testing.T) {
	edges := []uint64{0, 1, half - 1, half, half + 1, top - 1, top}
	seen := map[int64]int{}
	for _, low := range edges {
		for _, high := range edges[3:] {
			b := api.Nat{low, high}
			for _, x := range edges {
				for _, y := range edges {
					for _, z := range edges {
						a := limbs(value(api.Nat{x, y, z}))
						q, r := quotient(a, b)
						divides(t, a, b, q, r)
						if len(q) < 2 {
							seen[new(big.Int).Sub(guess(a, b), value(q)).Int64()]++
						}
					}
				}
			}
		}
	}
	if seen[0] == 0 || seen[1] == 0 || seen[2] == 0 {
		t.Errorf("guesses are too great by: %v", seen)
	}
}

// P3.1: Word is as Div by the number that the word is.
func TestWord(t *testing.T) {
	for _, a := range append(numbers(), mixed(50), full(60), bare(70), gaps(1100)) {
		for _, w := range words() {
			x, y := quotient(a, api.Nat{w})
			q, r, e := div.Word(a, w)
			if e != api.OK || !slices.Equal(q, x) || !slices.Equal(nat.Of(r), y) {
				t.Errorf("Word %v, %d: %v, %d, error %d; want %v, %v", told(a), w, told(q), r, int(e), told(x), y)
			}
			divides(t, a, nat.Of(w), q, nat.Of(r))
		}
	}
}

// P3.1
func TestExact(t *testing.T) {
	sure := sureOf(t)
	all := append(numbers(), mixed(20), full(33), gaps(17))
	for _, b := range above(all) {
		for _, q := range all {
			product := made(q, b, nil)
			is(t, "Exact", sure(div.Exact(product, b)), limbs(value(q)))
			for _, r := range []api.Nat{{1}, {2}, lessOne(b)} {
				if len(r) == 0 || value(r).Cmp(value(b)) >= 0 {
					continue
				}
				if x, e := div.Exact(made(q, b, r), b); len(x) != 0 || e != api.ErrNone {
					t.Errorf("Exact %v, %v with %v: %v, error %d", told(q), told(b), told(r), told(x), int(e))
				}
			}
		}
	}
}

// refuse checks that every call has that error of a and b, and beside it nothing; Word does, if b is no more than a limb.
func refuse(t *testing.T, a, b api.Nat, want api.Errno) {
	t.Helper()
	for name, by := range ways() {
		if q, r, e := by(a, b); len(q) != 0 || len(r) != 0 || e != want {
			t.Errorf("%s %v, %v: %v, %v, error %d; want error %d", name, told(a), told(b), told(q), told(r), int(e), int(want))
		}
	}
	if q, e := div.Exact(a, b); len(q) != 0 || e != want {
		t.Errorf("Exact %v, %v: %v, error %d; want error %d", told(a), told(b), told(q), int(e), int(want))
	}
}

func refuseWord(t *testing.T, a api.Nat, w uint64, want api.Errno) {
	t.Helper()
	if q, r, e := div.Word(a, w); len(q) != 0 || r != 0 || e != want {
		t.Errorf("Word %v, %d: %v, %d, error %d; want error %d", told(a), w, told(q), r, int(e), int(want))
	}
}

// P3.1: by 0.
func TestByNought(t *testing.T) {
	for _, a := range append(numbers(), mixed(600), full(1100)) {
		refuse(t, a, nil, api.ErrZero)
		refuse(t, a, api.Nat{}, api.ErrZero)
		refuseWord(t, a, 0, api.ErrZero)
	}
}

// P3.1: a number that may not be, in each place, also where the other one is 0.
func TestBad(t *testing.T) {
	for _, x := range bad() {
		for _, a := range append(numbers(), mixed(600)) {
			refuse(t, x, a, api.ErrBad)
			refuse(t, a, x, api.ErrBad)
		}
		for _, y := range bad() {
			refuse(t, x, y, api.ErrBad)
		}
		for _, w := range append(words(), 0) {
			refuseWord(t, x, w, api.ErrBad)
		}
	}
}
