package gcd_test

import (
	"slices"
	"strings"
	"testing"

	"facetroom/api"
	"facetroom/gcd"
	"facetroom/nat"
)

type reckon func(a, b api.Nat) (api.Nat, api.Errno)

// pairCalls are all calls of two numbers.
func pairCalls() map[string]reckon { return map[string]reckon{"Gcd": gcd.Gcd, "Lcm": gcd.Lcm} }

const mark = 0x5a5a5a5a5a5a5a5a

// room is more than what a call needs behind a number.
const room = 40

// roomy is a number with marked room behind it.
func roomy(a api.Nat) api.Nat {
	return append(slices.Clone(a), slices.Repeat(api.Nat{mark}, room)...)[:len(a)]
}

// kept tells whether a number and its room are as roomy made them.
func kept(l, a api.Nat) bool {
	all := l[:len(a)+room]
	return slices.Equal(all[:len(a)], a) && slices.Equal(all[len(a):], slices.Repeat(api.Nat{mark}, room))
}

func spoil(l api.Nat) {
	l = l[:cap(l)]
	for i := range l {
		l[i] = ^l[i]
	}
}

// P4.3: arguments, and the room behind them, stay as they were, also where what is answered is written on; what is answered may be, and does not hang on what was answered ahead.
func TestMemory(t *testing.T) {
	all := slices.Concat(numbers(), bad(), []api.Nat{mixed(8), mixed(15), full(20), gaps(29), product(mixed(8), mixed(3)), product(full(20), mixed(3))})
	for name, do := range pairCalls() {
		for _, a := range all {
			for _, b := range all {
				x, y := roomy(a), roomy(b)
				first, e1 := do(x, y)
				if !kept(x, a) || !kept(y, b) {
					t.Fatalf("%s of %v, %v: arguments are changed", name, told(a), told(b))
				}
				if nat.Check(first) != api.OK {
					t.Fatalf("%s of %v, %v: %v may not be", name, told(a), told(b), told(first))
				}
				want := slices.Clone(first)
				spoil(first)
				if !kept(x, a) || !kept(y, b) {
					t.Fatalf("%s of %v, %v: shares memory with an argument", name, told(a), told(b))
				}
				second, e2 := do(x, y)
				if e1 != e2 || !slices.Equal(second, want) {
					t.Fatalf("%s of %v, %v: %v, then %v", name, told(a), told(b), told(want), told(second))
				}
			}
		}
	}
}

// P4.3: one number in both places.
func TestTwiceTheSame(t *testing.T) {
	for name, do := range pairCalls() {
		for _, a := range append(numbers(), mixed(30)) {
			x := roomy(a)
			got := sureOf(t)(do(x, x))
			is(t, name, got, a)
			spoil(got)
			if !kept(x, a) {
				t.Errorf("%s: %v is changed", name, told(a))
			}
		}
	}
}

// P4.3: an answer that is the same as an argument is new memory too.
func TestSameNumberIsNew(t *testing.T) {
	sure := sureOf(t)
	for _, n := range []int{1, 2, 5, 30} {
		a := mixed(n)
		want := slices.Clone(a)
		twice := product(a, api.Nat{2})
		answers := []api.Nat{
			sure(gcd.Gcd(a, nil)), sure(gcd.Gcd(nil, a)), sure(gcd.Gcd(a, a)), sure(gcd.Gcd(a, twice)), sure(gcd.Gcd(twice, a)),
			sure(gcd.Lcm(a, api.Nat{1})), sure(gcd.Lcm(api.Nat{1}, a)), sure(gcd.Lcm(a, a)),
		}
		for i, x := range answers {
			if !slices.Equal(x, want) {
				t.Errorf("%d: %v, want %v", i, told(x), told(want))
			}
			spoil(x)
		}
		if !slices.Equal(a, want) {
			t.Errorf("%v is now %v", told(want), told(a))
		}
	}
}

// P4.3: what is not used any more does not change what was answered.
func TestNothingIsKept(t *testing.T) {
	for name, do := range pairCalls() {
		for _, n := range []int{1, 2, 3, 9, 30} {
			for _, m := range []int{1, 2, 3, 9, 30} {
				a, b := mixed(n), product(mixed(n), gaps(m))
				got := sureOf(t)(do(a, b))
				want := slices.Clone(got)
				spoil(a)
				spoil(b)
				is(t, name, got, want)
			}
		}
	}
}

// P4.3: Text only reads a number, and its text stays, whatever becomes of that.
func TestTextMemory(t *testing.T) {
	for _, a := range slices.Concat(numbers(), bad(), []api.Nat{mixed(30), full(212), full(300)}) {
		x := roomy(a)
		first, e1 := gcd.Text(x)
		want := strings.Clone(first)
		if !kept(x, a) {
			t.Fatalf("Text %v: is changed", told(a))
		}
		second, e2 := gcd.Text(x)
		spoil(x)
		if first != want || second != want || e1 != e2 {
			t.Errorf("Text %v: %q, then %q, errors %d, %d", told(a), cut(want), cut(second), int(e1), int(e2))
		}
	}
}

// P4.3: what Parse answers is new each time, and may be.
func TestParseMemory(t *testing.T) {
	for _, s := range []string{"0", "1", "18446744073709551616", strings.Repeat("7", 100), strings.Repeat("9", api.MaxDigits)} {
		first := sureOf(t)(gcd.Parse(s))
		want := slices.Clone(first)
		spoil(first)
		second := sureOf(t)(gcd.Parse(s))
		is(t, "Parse "+cut(s), second, want)
		if nat.Check(second) != api.OK {
			t.Errorf("Parse %s: %v may not be", cut(s), told(second))
		}
	}
}
