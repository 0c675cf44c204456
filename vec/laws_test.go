package vec_test

import (
	"slices"
	"testing"

	"facetroom/api"
	"facetroom/vec"
	"facetroom/whole"
)

// some are rows of that length, of each kind, for three at a time.
func some(long int) []api.Vec {
	l := rows(long)
	if long == 0 {
		return l
	}
	return []api.Vec{l[0], l[2], l[4], l[5], l[7], l[9], l[len(l)-1]}
}

// P7.4: products do not hang on their order, and go through sums and scales.
func TestDotLaws(t *testing.T) {
	sure, one := sureOf[api.Vec](t), sureOf[api.Int](t)
	for _, long := range lengths() {
		for _, a := range some(long) {
			for _, b := range some(long) {
				ab, sum := one(vec.Dot(a, b)), sure(vec.Add(a, b))
				isInt(t, "Dot the other way round", one(vec.Dot(b, a)), ab)
				is(t, "Add the other way round", sure(vec.Add(b, a)), sum)
				for _, c := range some(long) {
					ac, bc := one(vec.Dot(a, c)), one(vec.Dot(b, c))
					isInt(t, "Dot of a sum", one(vec.Dot(sum, c)), one(whole.Add(ac, bc)))
				}
				for _, n := range numbers() {
					want := one(whole.Mul(n, ab))
					isInt(t, "Dot of a scaled row", one(vec.Dot(sure(vec.Scale(a, n)), b)), want)
					isInt(t, "Dot with a scaled row", one(vec.Dot(a, sure(vec.Scale(b, n)))), want)
				}
			}
		}
	}
}

// P7.1: Mix is what Scale and Add make.
func TestMixBeside(t *testing.T) {
	sure := sureOf[api.Vec](t)
	one, less := plus(api.Nat{1}), minus(api.Nat{1})
	for _, long := range lengths() {
		for _, a := range some(long) {
			for _, b := range some(long) {
				for _, m := range numbers() {
					n := plus(api.Nat{5, 1})
					scaled := sure(vec.Scale(a, m))
					is(t, "Mix", sure(vec.Mix(m, a, n, b)), sure(vec.Add(scaled, sure(vec.Scale(b, n)))))
					is(t, "Mix the other way round", sure(vec.Mix(n, b, m, a)), sure(vec.Mix(m, a, n, b)))
					is(t, "Mix with 0", sure(vec.Mix(m, a, api.Int{}, b)), scaled)
					is(t, "Mix with 0 ahead", sure(vec.Mix(api.Int{}, b, m, a)), scaled)
				}
				is(t, "Mix with 1 and 1", sure(vec.Mix(one, a, one, b)), sure(vec.Add(a, b)))
				is(t, "Mix with 1 and -1", sure(vec.Mix(one, a, less, b)), sure(vec.Add(a, opposite(b))))
				is(t, "Mix with 0 and 0", sure(vec.Mix(api.Int{}, a, api.Int{}, b)), make(api.Vec, long))
			}
			is(t, "Mix of a row and itself", sure(vec.Mix(one, a, less, a)), make(api.Vec, long))
		}
	}
}

// P7.4: the content divides each number, and times the row in lowest terms is the row; what is in lowest terms has the content 1, or is all noughts.
func TestPrimeLaws(t *testing.T) {
	sure, content := sureOf[api.Vec](t), sureOf[api.Nat](t)
	for _, a := range allRows() {
		common, low := content(vec.Content(a)), sure(vec.Prime(a))
		is(t, "content times "+told(low), sure(vec.Scale(low, plus(common))), a)
		is(t, "Prime of Prime", sure(vec.Prime(low)), low)
		if isNoughts(a) {
			is(t, "Prime of noughts", low, a)
			if len(common) > 0 || !vec.Zero(low) {
				t.Errorf("Content of noughts: %s", toldInt(plus(common)))
			}
			continue
		}
		isInt(t, "Content of Prime", plus(content(vec.Content(low))), plus(api.Nat{1}))
		for _, x := range a {
			if _, e := whole.Exact(x, plus(common)); e != api.OK {
				t.Errorf("%s does not divide %s", toldInt(plus(common)), toldInt(x))
			}
		}
	}
}

// P7.4: rows that are scaled by a number above 0 are the same in lowest terms; by one below they are turned.
func TestScaledPrime(t *testing.T) {
	sure, content := sureOf[api.Vec](t), sureOf[api.Nat](t)
	for _, long := range lengths() {
		for _, a := range some(long) {
			common, low := content(vec.Content(a)), sure(vec.Prime(a))
			for _, abs := range sizes() {
				up, down := sure(vec.Scale(a, plus(abs))), sure(vec.Scale(a, minus(abs)))
				is(t, "Prime of a scaled row", sure(vec.Prime(up)), low)
				is(t, "Prime of a row scaled below 0", sure(vec.Prime(down)), opposite(low))
				want := sureOf[api.Int](t)(whole.Mul(plus(common), plus(abs)))
				isInt(t, "Content of a scaled row", plus(content(vec.Content(up))), want)
				isInt(t, "Content of a row scaled below 0", plus(content(vec.Content(down))), want)
			}
		}
	}
}

// P7.2: Cmp turned is turned, and is 0 just of rows that are the same; sorted by it rows rise.
func TestSorted(t *testing.T) {
	order := func(a, b api.Vec) int { return sureOf[int](t)(vec.Cmp(a, b)) }
	for _, long := range lengths() {
		l := rows(long)
		for _, a := range l {
			for _, b := range l {
				n := order(a, b)
				if back := order(b, a); back != -n {
					t.Errorf("Cmp %s, %s: %d, turned %d", told(a), told(b), n, back)
				}
				if (n == 0) != vec.Same(a, b) {
					t.Errorf("%s, %s: Cmp %d, Same %v", told(a), told(b), n, vec.Same(a, b))
				}
			}
		}
		slices.SortFunc(l, order)
		for i := range l {
			for k := range i {
				if order(l[k], l[i]) > 0 {
					t.Errorf("%s ahead of %s", told(l[k]), told(l[i]))
				}
			}
		}
	}
}
