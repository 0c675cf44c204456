package vec_test

import (
	"math"
	"math/big"
	"slices"
	"testing"

	"facetroom/api"
	"facetroom/vec"
)

// The table of the chapter's examples.
func TestExamples(t *testing.T) {
	sure, one, content := sureOf[api.Vec](t), sureOf[api.Int](t), sureOf[api.Nat](t)
	isInt(t, "Dot of 1 2 3, 4 -5 6", one(vec.Dot(small(1, 2, 3), small(4, -5, 6))), plus(api.Nat{12}))
	is(t, "Mix of 2, 1 0, -1, 0 3", sure(vec.Mix(plus(api.Nat{2}), small(1, 0), minus(api.Nat{1}), small(0, 3))), small(2, -3))
	isInt(t, "Content of 4 -6 0", plus(content(vec.Content(small(4, -6, 0)))), plus(api.Nat{2}))
	is(t, "Prime of 4 -6 0", sure(vec.Prime(small(4, -6, 0))), small(2, -3, 0))
	isInt(t, "Content of 0 0", plus(content(vec.Content(small(0, 0)))), api.Int{})
	compares(t, small(1, 2), small(1, 3), -1)
	got, e := vec.Add(small(1), small(1, 2))
	refused(t, "Add of 1, 1 2", got, e, api.ErrDim)
}

func compares(t *testing.T, a, b api.Vec, want int) {
	t.Helper()
	if n, e := vec.Cmp(a, b); n != want || e != api.OK {
		t.Errorf("Cmp %s, %s: %d, error %d; want %d", told(a), told(b), n, int(e), want)
	}
}

// P7.1: rows of numbers that may be, as many as may be; a number that may not, in each place; one number more.
func TestCheck(t *testing.T) {
	for _, a := range allRows() {
		if e := vec.Check(a); e != api.OK {
			t.Errorf("Check %s: error %d", told(a), int(e))
		}
	}
	for _, a := range badRows() {
		if e := vec.Check(a); e != api.ErrBad {
			t.Errorf("Check %s, long %d: error %d", told(a), len(a), int(e))
		}
	}
	for long := range 200 {
		want := api.OK
		if long > 64 {
			want = api.ErrBad
		}
		if e := vec.Check(times(long, minus(api.Nat{5}))); e != want {
			t.Errorf("Check of %d numbers: error %d", long, int(e))
		}
	}
}

// P7.1: Of beside ints, of none, and of more than a row may have.
func TestOf(t *testing.T) {
	if a := vec.Of(); len(a) != 0 {
		t.Errorf("Of nothing: %s", told(a))
	}
	ends := []int{math.MinInt, math.MinInt + 1, -1 << 32, -1, 0, 1, 1 << 32, math.MaxInt - 1, math.MaxInt}
	for _, n := range ends {
		is(t, "Of one", vec.Of(n), api.Vec{number(big.NewInt(int64(n)))})
		for _, m := range ends {
			is(t, "Of two", vec.Of(n, m), small(int64(n), int64(m)))
		}
	}
	for _, long := range []int{3, 63, 64, 65, 66, 1000} {
		ints, want := make([]int, long), make([]int64, long)
		x := uint64(long)
		for i := range ints {
			ints[i] = int(shuffled(&x)) >> (shuffled(&x) % 64)
			want[i] = int64(ints[i])
		}
		a := vec.Of(ints...)
		is(t, "Of many", a, small(want...))
		if e := vec.Check(a); (e == api.OK) != (long <= 64) {
			t.Errorf("Of %d ints, Check: error %d", long, int(e))
		}
	}
}

// P7.2: rows that are the same up to a place, and whose number is less there; behind it they are whatever they are.
func TestCmpPlaces(t *testing.T) {
	steps := [][2]api.Int{{minus(api.Nat{1}), api.Int{}}, {api.Int{}, plus(api.Nat{1})}, {plus(api.Nat{1}), plus(api.Nat{2})}, {minus(api.Nat{2}), minus(api.Nat{1})}, {minus(full(4)), plus(api.Nat{3})}, {plus(api.Nat{top}), plus(api.Nat{0, 1})}, {minus(api.Nat{0, 1}), minus(api.Nat{top})}, {plus(api.Nat{9, 1, 1}), plus(api.Nat{0, 2, 1})}}
	for _, long := range lengths() {
		for _, row := range rows(long) {
			compares(t, row, row, 0)
			for i := range long {
				if long > 8 && i%21 > 0 { // the first one, two within, and the last one
					continue
				}
				for _, step := range steps {
					a, b := slices.Clone(row), slices.Clone(row)
					a[i], b[i] = step[0], step[1]
					compares(t, a, b, -1)
					compares(t, b, a, 1)
					if i+1 < long {
						a[i+1], b[i+1] = plus(api.Nat{7}), minus(api.Nat{7})
						compares(t, a, b, -1)
						compares(t, b, a, 1)
					}
				}
			}
		}
	}
}

// P7.2: Cmp beside an order of another's reckoning.
func TestCmp(t *testing.T) {
	for _, long := range lengths() {
		for _, a := range rows(long) {
			for _, b := range rows(long) {
				compares(t, a, b, slices.CompareFunc(a, b, func(x, y api.Int) int { return value(x).Cmp(value(y)) }))
			}
		}
	}
}

// P7.2: Zero of rows, with another number in each place, and of what is no row.
func TestZero(t *testing.T) {
	for _, a := range slices.Concat(allRows(), badRows()) {
		if got := vec.Zero(a); got != isNoughts(a) {
			t.Errorf("Zero %s: %v", told(a), got)
		}
	}
	for _, long := range []int{0, 1, 2, 64, 65, 1000} {
		for _, nought := range noughts() {
			if !vec.Zero(times(long, nought)) {
				t.Errorf("Zero of %d noughts: false", long)
			}
		}
		for _, i := range []int{0, long / 2, long - 1} {
			for _, n := range slices.Concat(numbers()[2:], badNumbers()) {
				if a := make(api.Vec, long); long > 0 {
					a[i] = n
					if vec.Zero(a) {
						t.Errorf("Zero of %d, one of which is %s: true", long, toldInt(n))
					}
				}
			}
		}
	}
}

// P7.2: of rows, and of what is none, Same goes by what stands in all numbers.
func TestSame(t *testing.T) {
	all := slices.Concat(rows(0), rows(1), rows(3), rows(64), badRows())
	for _, a := range all {
		for _, b := range all {
			if got := vec.Same(a, b); got != same(a, b) {
				t.Errorf("Same %s, %s: %v", told(a), told(b), got)
			}
		}
		if !vec.Same(a, cloneOf(a)) {
			t.Errorf("%s and its like: not the same", told(a))
		}
		longer := append(slices.Clone(a), api.Int{})
		if vec.Same(a, longer) || vec.Same(longer, a) {
			t.Errorf("%s and one more: the same", told(a))
		}
		for i := range a {
			for _, other := range []api.Int{{Neg: !a[i].Neg, Abs: a[i].Abs}, {Neg: a[i].Neg, Abs: append(slices.Clone(a[i].Abs), 0)}, {Neg: a[i].Neg, Abs: append(slices.Clone(a[i].Abs), 1)}} {
				b := slices.Clone(a)
				b[i] = other
				if vec.Same(a, b) || vec.Same(b, a) {
					t.Errorf("%s, another number in place %d: the same", told(a), i)
				}
			}
		}
	}
	for _, c := range [][2]api.Vec{{nil, {}}, {{{}}, {{Abs: api.Nat{}}}}, {{{Neg: true}}, {{Neg: true, Abs: api.Nat{}}}}} {
		if !vec.Same(c[0], c[1]) || !vec.Same(c[1], c[0]) {
			t.Errorf("%s, lists without elements, nil and not: not the same", told(c[0]))
		}
	}
}

// P7.2: Twin of rows, and of what is none.
func TestTwin(t *testing.T) {
	for _, a := range slices.Concat(allRows(), badRows()) {
		is(t, "Twin", vec.Twin(a), a)
	}
}

// P7.1, P7.2: what is no row, alone.
func TestBadAlone(t *testing.T) {
	for _, a := range badRows() {
		for name, do := range loneCalls() {
			if got, e := do(a); name != "Twin" {
				refused(t, name+" "+told(a), got, e, api.ErrBad)
			}
		}
		for _, n := range slices.Concat(numbers(), badNumbers()) {
			got, e := vec.Scale(a, n)
			refused(t, "Scale "+told(a)+", "+toldInt(n), got, e, api.ErrBad)
		}
	}
}

// P7.1: what is no number, beside rows of all lengths.
func TestBadNumbers(t *testing.T) {
	for _, n := range badNumbers() {
		for _, long := range lengths() {
			a := times(long, plus(api.Nat{3}))
			got, e := vec.Scale(a, n)
			refused(t, "Scale by "+toldInt(n), got, e, api.ErrBad)
			for _, m := range slices.Concat(noughts(), []api.Int{plus(api.Nat{1}), n}) {
				for _, b := range []api.Vec{a, nil, small(1, 2, 3, 4), badRows()[0], badRows()[5]} {
					got, e := vec.Mix(n, a, m, b)
					refused(t, "Mix of "+toldInt(n)+", "+toldInt(m), got, e, api.ErrBad)
					got, e = vec.Mix(m, a, n, b)
					refused(t, "Mix of "+toldInt(m)+", "+toldInt(n), got, e, api.ErrBad)
				}
			}
		}
	}
}

// P7.1, P7.2: what is no row, in each place, beside rows of its length and of others: that is looked for ahead of lengths.
func TestBadPairs(t *testing.T) {
	for name, do := range pairCalls() {
		for _, x := range badRows() {
			beside := slices.Concat(fewBad(), []api.Vec{nil, small(1), small(0, 0, 0), times(len(x), plus(api.Nat{2})), times(len(x)+1, plus(api.Nat{2}))})
			for _, a := range beside {
				got, e := do(x, a)
				refused(t, name+" "+told(x)+", "+told(a), got, e, api.ErrBad)
				got, e = do(a, x)
				refused(t, name+" "+told(a)+", "+told(x), got, e, api.ErrBad)
			}
		}
	}
}

// P7.1, P7.2: rows of different lengths, also of noughts, and where all numbers of the shorter one stand in the longer one.
func TestLengths(t *testing.T) {
	for name, do := range pairCalls() {
		for _, long := range lengths() {
			for _, other := range lengths() {
				if long == other {
					continue
				}
				for _, n := range []api.Int{{}, plus(api.Nat{1}), minus(full(3))} {
					got, e := do(times(long, n), times(other, n))
					refused(t, name, got, e, api.ErrDim)
				}
				for _, a := range rows(long) {
					got, e := do(a, rows(other)[0])
					refused(t, name+" "+told(a), got, e, api.ErrDim)
				}
			}
		}
	}
}
