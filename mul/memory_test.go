package mul_test

import (
	"slices"
	"testing"

	"facetroom/api"
	"facetroom/mul"
	"facetroom/nat"
)

// reckon has every call, as one of two numbers; what it doesn't take it lets be.
func reckon() map[string]times {
	m := ways()
	for name, n := range map[string]int{" -1": -1, " 0": 0, " 1": 1, " 2": 2, " 3": 3, " 1024": 1024, " 1025": 1025} {
		m["Pow"+name] = func(a, _ api.Nat) (api.Nat, api.Errno) { return mul.Pow(a, n) }
	}
	return m
}

const mark = 0x5a5a5a5a5a5a5a5a

// room is more than what a product is longer than a number.
const room = 600

// roomy is a number with marked room behind it.
func roomy(a api.Nat) api.Nat {
	return append(slices.Clone(a), slices.Repeat(api.Nat{mark}, room)...)[:len(a)]
}

// kept tells whether a number and its room are as roomy made them.
func kept(l, a api.Nat) bool {
	all := l[:len(a)+room]
	return slices.Equal(all[:len(a)], a) && slices.Equal(all[len(a):], slices.Repeat(api.Nat{mark}, room))
}

func spoil(l api.Nat) {
	l = l[:cap(l)]
	for i := range l {
		l[i] = ^l[i]
	}
}

// everyTwo goes through all pairs, of numbers and of what is none.
func everyTwo(do func(a, b api.Nat)) {
	all := slices.Concat(numbers(), bad(), []api.Nat{mixed(64), mixed(215), full(400), gaps(500)})
	for _, a := range all {
		for _, b := range all {
			do(a, b)
		}
	}
}

// P2.2: arguments, and the room behind them, stay as they were, also where what is answered is written on; what is answered may be, and does not hang on what was answered ahead.
func TestMemory(t *testing.T) {
	for name, do := range reckon() {
		everyTwo(func(a, b api.Nat) {
			x, y := roomy(a), roomy(b)
			first, e1 := do(x, y)
			if !kept(x, a) || !kept(y, b) {
				t.Fatalf("%s of %v, %v: arguments are changed", name, told(a), told(b))
			}
			if e1 == api.OK && nat.Check(first) != api.OK {
				t.Fatalf("%s of %v, %v: %v may not be", name, told(a), told(b), told(first))
			}
			want := slices.Clone(first)
			spoil(first)
			if !kept(x, a) || !kept(y, b) {
				t.Fatalf("%s of %v, %v: shares memory with an argument", name, told(a), told(b))
			}
			second, e2 := do(x, y)
			if e1 != e2 || !slices.Equal(second, want) {
				t.Fatalf("%s of %v, %v: %v, then %v", name, told(a), told(b), told(want), told(second))
			}
		})
	}
}

// P2.2: one number in both places.
func TestTwiceTheSame(t *testing.T) {
	for name, by := range ways() {
		for _, a := range append(numbers(), mixed(300)) {
			x := roomy(a)
			got, e := by(x, x)
			is(t, name, got, e, product(a, a))
			spoil(got)
			if !kept(x, a) {
				t.Errorf("%s: %v is changed", name, told(a))
			}
		}
	}
}

// P2.2: what is not used any more does not change what was answered.
func TestNothingIsKept(t *testing.T) {
	for name, do := range reckon() {
		for _, n := range []int{1, 2, 3, 210, 450} {
			a, b := mixed(n), mixed(n+1)
			got, _ := do(a, b)
			want := slices.Clone(got)
			spoil(a)
			spoil(b)
			if !slices.Equal(got, want) {
				t.Errorf("%s: %v, then %v", name, told(want), told(got))
			}
		}
	}
}

// P2.2: a number times 1, and its first power, are new memory too.
func TestOneIsNew(t *testing.T) {
	for _, n := range []int{1, 2, 5, 300} {
		a := mixed(n)
		want := slices.Clone(a)
		answers := []api.Nat{sureOf(t)(mul.Pow(a, 1))}
		for _, by := range ways() {
			answers = append(answers, sureOf(t)(by(a, api.Nat{1})), sureOf(t)(by(api.Nat{1}, a)))
		}
		for i, x := range answers {
			if !slices.Equal(x, want) {
				t.Errorf("%d: %v, want %v", i, told(x), told(want))
			}
			spoil(x)
		}
		if !slices.Equal(a, want) {
			t.Errorf("%v is now %v", told(want), told(a))
		}
	}
}
