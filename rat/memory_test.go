package rat_test

import (
	"slices"
	"strings"
	"testing"

	"facetroom/api"
	"facetroom/rat"
)

const mark = 0x5a5a5a5a5a5a5a5a

// room is more than what a call needs behind a number.
const room = 40

// roomyNat is a number with marked room behind it.
func roomyNat(a api.Nat) api.Nat {
	return append(slices.Clone(a), slices.Repeat(api.Nat{mark}, room)...)[:len(a)]
}

func roomyInt(a api.Int) api.Int { return api.Int{Neg: a.Neg, Abs: roomyNat(a.Abs)} }

func roomy(a api.Rat) api.Rat { return api.Rat{Num: roomyInt(a.Num), Den: roomyNat(a.Den)} }

// keptNat tells whether a number and its room are as roomyNat made them.
func keptNat(x, a api.Nat) bool {
	all := x[:len(a)+room]
	return slices.Equal(all[:len(a)], a) && slices.Equal(all[len(a):], slices.Repeat(api.Nat{mark}, room))
}

func kept(x, a api.Rat) bool {
	return x.Num.Neg == a.Num.Neg && keptNat(x.Num.Abs, a.Num.Abs) && keptNat(x.Den, a.Den)
}

// spoilNat writes on a number's memory, with the room behind it.
func spoilNat(a api.Nat) {
	l := a[:cap(a)]
	for i := range l {
		l[i] = ^l[i]
	}
}

func spoil(a api.Rat) {
	spoilNat(a.Num.Abs)
	spoilNat(a.Den)
}

func cloneOf(a api.Rat) api.Rat {
	return api.Rat{Num: api.Int{Neg: a.Num.Neg, Abs: slices.Clone(a.Num.Abs)}, Den: slices.Clone(a.Den)}
}

// apart tells whether a fraction's two lists share no memory: what is written on the one is not seen in the other.
func apart(a api.Rat) bool {
	den := slices.Clone(a.Den[:cap(a.Den)])
	spoilNat(a.Num.Abs)
	is := slices.Equal(den, a.Den[:cap(a.Den)])
	spoilNat(a.Num.Abs)
	return is
}

// P6.3: arguments, and the room behind them, stay as they were, also where what is answered is written on; what is answered may be, and does not hang on what was answered ahead.
func TestMemory(t *testing.T) {
	all := slices.Concat(few(), bad())
	for name, do := range pairCalls() {
		for _, a := range all {
			for _, b := range all {
				x, y := roomy(a), roomy(b)
				what := name + " " + told(a) + ", " + told(b)
				first, e1 := do(x, y)
				if !kept(x, a) || !kept(y, b) {
					t.Fatalf("%s: arguments are changed", what)
				}
				if e1 == api.OK && rat.Check(first) != api.OK || !apart(first) {
					t.Fatalf("%s: %s may not be", what, told(first))
				}
				want := cloneOf(first)
				spoil(first)
				if !kept(x, a) || !kept(y, b) {
					t.Fatalf("%s: shares memory with an argument", what)
				}
				if second, e2 := do(x, y); e1 != e2 || !same(second, want) {
					t.Fatalf("%s: %s, then %s", what, told(want), told(second))
				}
			}
		}
	}
}

// P6.3: likewise Of, also with one number in both places.
func TestOfMemory(t *testing.T) {
	all := slices.Concat(nums(), badInts())
	for _, a := range all {
		for _, b := range all {
			x, y := roomyInt(a), roomyInt(b)
			if sameInt(a, b) {
				y = x
			}
			keep := func() bool { return kept(api.Rat{Num: x, Den: y.Abs}, api.Rat{Num: a, Den: b.Abs}) }
			what := "Of " + toldInt(a) + ", " + toldInt(b)
			first, e1 := rat.Of(x, y)
			if e1 == api.OK && rat.Check(first) != api.OK || !apart(first) {
				t.Fatalf("%s: %s may not be", what, told(first))
			}
			want := cloneOf(first)
			spoil(first)
			if !keep() {
				t.Fatalf("%s: arguments are changed", what)
			}
			if second, e2 := rat.Of(x, y); e1 != e2 || !same(second, want) {
				t.Fatalf("%s: %s, then %s", what, told(want), told(second))
			}
		}
	}
}

// P6.3: likewise Floor and Ceil.
func TestRoundMemory(t *testing.T) {
	for name, do := range roundCalls() {
		for _, a := range slices.Concat(fractions(), bad()) {
			x := roomy(a)
			first, e1 := do(x)
			want := api.Int{Neg: first.Neg, Abs: slices.Clone(first.Abs)}
			spoilNat(first.Abs)
			if !kept(x, a) {
				t.Fatalf("%s %s: the argument is changed", name, told(a))
			}
			if second, e2 := do(x); e1 != e2 || !sameInt(second, want) {
				t.Fatalf("%s %s: %s, then %s", name, told(a), toldInt(want), toldInt(second))
			}
		}
	}
}

// P6.3: what is asked only reads.
func TestAskingOnlyReads(t *testing.T) {
	all := slices.Concat(some(), bad())
	for _, a := range all {
		x := roomy(a)
		rat.Check(x)
		rat.Text(x)
		for _, b := range all {
			y := roomy(b)
			rat.Cmp(x, y)
			rat.Same(x, y)
			if !kept(x, a) || !kept(y, b) {
				t.Fatalf("%s, %s: arguments are changed", told(a), told(b))
			}
		}
	}
}

// P6.3: one fraction in both places, and one list in both of its own.
func TestTwiceTheSame(t *testing.T) {
	sure := sureOf[api.Rat](t)
	for name, do := range pairCalls() {
		for _, a := range fractions() {
			if isNought(a) {
				continue
			}
			x := roomy(a)
			got := sure(do(x, x))
			is(t, name+" of "+told(a)+" twice", got, sure(do(cloneOf(a), cloneOf(a))))
			spoil(got)
			if !kept(x, a) {
				t.Errorf("%s: %s is changed", name, told(a))
			}
		}
		one := roomyNat(api.Nat{1})
		x := api.Rat{Num: plus(one), Den: one}
		got := sure(do(x, x))
		if !apart(got) {
			t.Errorf("%s of 1, 1: num and den share memory", name)
		}
		spoil(got)
		if !keptNat(one, api.Nat{1}) {
			t.Errorf("%s: 1 is changed", name)
		}
	}
}

// P6.3: an answer that is the same as an argument, or as a part of it, is new memory too.
func TestSameFractionIsNew(t *testing.T) {
	sure, whole := sureOf[api.Rat](t), sureOf[api.Int](t)
	nought, one, less := small(0, 1), small(1, 1), small(-1, 1)
	for _, a := range fractions() {
		x := roomy(a)
		for _, got := range []api.Rat{
			sure(rat.Of(x.Num, plus(x.Den))), sure(rat.Add(x, nought)), sure(rat.Add(nought, x)), sure(rat.Sub(x, nought)), sure(rat.Sub(nought, x)),
			sure(rat.Mul(x, one)), sure(rat.Mul(one, x)), sure(rat.Mul(x, less)), sure(rat.Div(x, one)), sure(rat.Div(x, less)),
		} {
			spoil(got)
		}
		if !isNought(a) {
			spoil(sure(rat.Div(one, x)))
			spoil(sure(rat.Of(plus(x.Den), x.Num)))
		}
		spoilNat(whole(rat.Floor(x)).Abs)
		spoilNat(whole(rat.Ceil(x)).Abs)
		if !kept(x, a) {
			t.Errorf("%s is changed", told(a))
		}
	}
}

// P6.3: what is not used any more does not change what was answered.
func TestNothingIsKept(t *testing.T) {
	for name, do := range pairCalls() {
		for _, a := range few() {
			for _, b := range few() {
				x, y := cloneOf(a), cloneOf(b)
				got, _ := do(x, y)
				want := cloneOf(got)
				spoil(x)
				spoil(y)
				is(t, name+" "+told(a)+", "+told(b), got, want)
			}
		}
	}
	for _, a := range fractions() {
		x := cloneOf(a)
		got, _ := rat.Of(x.Num, plus(x.Den))
		low, _ := rat.Floor(x)
		spoil(x)
		is(t, "Of "+told(a), got, a)
		again, _ := rat.Floor(a)
		isInt(t, "Floor "+told(a), low, again)
	}
}

// P6.3: a text stays, whatever becomes of the fraction.
func TestTextMemory(t *testing.T) {
	for _, a := range fractions() {
		x := roomy(a)
		s, _ := rat.Text(x)
		want := strings.Clone(s)
		spoil(x)
		if s != want {
			t.Errorf("%s: %s", cut(want), cut(s))
		}
	}
}
