package div_test

import (
	"slices"
	"testing"

	"facetroom/api"
	"facetroom/div"
	"facetroom/mul"
	"facetroom/nat"
)

// comesBack checks that q times b, and r, are a, and that r is less than b.
func comesBack(t *testing.T, what string, a, b, q, r api.Nat) {
	t.Helper()
	sure := sureOf(t)
	if x := sure(nat.Add(sure(mul.Mul(q, b)), r)); !slices.Equal(x, a) {
		t.Errorf("%s %v, %v: %v, %v come to %v", what, told(a), told(b), told(q), told(r), told(x))
	}
	if n, e := nat.Cmp(r, b); n != -1 || e != api.OK {
		t.Errorf("%s %v, %v: %v is left over", what, told(a), told(b), told(r))
	}
}

// many are numbers of all lengths up to some.
func many() []api.Nat {
	l := numbers()
	for n := 1; n < 24; n++ {
		l = append(l, mixed(n), full(n), bare(n))
	}
	return l
}

// P3.3
func TestComesBack(t *testing.T) {
	for name, by := range ways() {
		for _, a := range many() {
			for _, b := range above(many()) {
				q, r, e := by(a, b)
				well(t, e)
				comesBack(t, name, a, b, q, r)
			}
		}
	}
	for _, a := range many() {
		for _, w := range words() {
			q, r, e := div.Word(a, w)
			well(t, e)
			comesBack(t, "Word", a, nat.Of(w), q, nat.Of(r))
		}
	}
}

// P3.3: a product, divided by one of its numbers, is the other one.
func TestProducts(t *testing.T) {
	sure := sureOf(t)
	for _, a := range above(many()) {
		for _, b := range above(many()) {
			product := sure(mul.Mul(a, b))
			divides(t, product, a, b, nil)
			divides(t, product, b, a, nil)
			is(t, "Exact by a", sure(div.Exact(product, a)), b)
			is(t, "Exact by b", sure(div.Exact(product, b)), a)
			if len(b) == 1 {
				q, r, e := div.Word(product, b[0])
				well(t, e)
				is(t, "Word", q, a)
				is(t, "Word, left over", nat.Of(r), nil)
			}
		}
	}
}

// P3.3: divided by a power of 2, a number is as if shifted down.
func TestPowersOfTwo(t *testing.T) {
	sure := sureOf(t)
	for _, a := range above(numbers()) {
		for bits := range 260 {
			q := sure(nat.Down(a, bits))
			r := sure(nat.Sub(a, sure(nat.Up(q, bits))))
			divides(t, a, sure(nat.Up(api.Nat{1}, bits)), q, r)
		}
	}
}
