package whole_test

import (
	"slices"
	"strings"
	"testing"

	"facetroom/api"
	"facetroom/whole"
)

const mark = 0x5a5a5a5a5a5a5a5a

// room is more than what a call needs behind a number.
const room = 40

// roomy is a number with marked room behind it.
func roomy(a api.Int) api.Int {
	return api.Int{Neg: a.Neg, Abs: append(slices.Clone(a.Abs), slices.Repeat(api.Nat{mark}, room)...)[:len(a.Abs)]}
}

// kept tells whether a number and its room are as roomy made them.
func kept(x, a api.Int) bool {
	n := len(a.Abs)
	all := x.Abs[:n+room]
	return slices.Equal(all[:n], a.Abs) && slices.Equal(all[n:], slices.Repeat(api.Nat{mark}, room))
}

// spoil writes on a number's memory, with the room behind it.
func spoil(a api.Int) {
	l := a.Abs[:cap(a.Abs)]
	for i := range l {
		l[i] = ^l[i]
	}
}

func clone(a api.Int) api.Int { return api.Int{Neg: a.Neg, Abs: slices.Clone(a.Abs)} }

// answerCalls are all calls that answer a number, as ones of two; what one doesn't take it lets be.
func answerCalls() map[string]reckon {
	m := pairCalls()
	m["Neg"] = func(a, _ api.Int) (api.Int, api.Errno) { return whole.Neg(a) }
	return m
}

// P5.5: arguments, and the room behind them, stay as they were, also where what is answered is written on; what is answered may be, and does not hang on what was answered ahead.
func TestMemory(t *testing.T) {
	all := slices.Concat(numbers(), bad())
	for name, do := range answerCalls() {
		for _, a := range all {
			for _, b := range all {
				x, y := roomy(a), roomy(b)
				first, e1 := do(x, y)
				if !kept(x, a) || !kept(y, b) {
					t.Fatalf("%s %s, %s: arguments are changed", name, told(a), told(b))
				}
				if whole.Check(first) != api.OK {
					t.Fatalf("%s %s, %s: %s may not be", name, told(a), told(b), told(first))
				}
				want := clone(first)
				spoil(first)
				if !kept(x, a) || !kept(y, b) {
					t.Fatalf("%s %s, %s: shares memory with an argument", name, told(a), told(b))
				}
				second, e2 := do(x, y)
				if e1 != e2 || !same(second, want) {
					t.Fatalf("%s %s, %s: %s, then %s", name, told(a), told(b), told(want), told(second))
				}
			}
		}
	}
}

// P5.5: what is asked only reads.
func TestAskingOnlyReads(t *testing.T) {
	all := slices.Concat(numbers(), bad())
	for _, a := range all {
		for _, b := range all {
			x, y := roomy(a), roomy(b)
			whole.Check(x)
			whole.Int(x)
			whole.Cmp(x, y)
			whole.Sign(x)
			whole.Text(x)
			whole.Same(x, y)
			if !kept(x, a) || !kept(y, b) {
				t.Fatalf("%s, %s: arguments are changed", told(a), told(b))
			}
		}
	}
}

// P5.5: one number in both places.
func TestTwiceTheSame(t *testing.T) {
	for name, do := range answerCalls() {
		for _, a := range numbers() {
			if len(a.Abs) == 0 {
				continue
			}
			x := roomy(a)
			got := sureOf(t)(do(x, x))
			is(t, name, got, sureOf(t)(do(clone(a), clone(a))))
			spoil(got)
			if !kept(x, a) {
				t.Errorf("%s: %s is changed", name, told(a))
			}
		}
	}
}

// P5.5: an answer that is the same as an argument, or its opposite, is new memory too.
func TestSameNumberIsNew(t *testing.T) {
	sure := sureOf(t)
	nought, one, less := api.Int{}, whole.Of(1), whole.Of(-1)
	for _, n := range []int{1, 2, 5, 30} {
		for _, a := range []api.Int{plus(mixed(n)), minus(mixed(n))} {
			want := clone(a)
			answers := []api.Int{
				sure(whole.Add(a, nought)), sure(whole.Add(nought, a)), sure(whole.Sub(a, nought)), sure(whole.Sub(nought, a)), sure(whole.Neg(a)),
				sure(whole.Mul(a, one)), sure(whole.Mul(one, a)), sure(whole.Mul(a, less)), sure(whole.Mul(less, a)),
				sure(whole.Floor(a, one)), sure(whole.Ceil(a, one)), sure(whole.Exact(a, one)),
				sure(whole.Floor(a, less)), sure(whole.Ceil(a, less)), sure(whole.Exact(a, less)),
			}
			for i, x := range answers {
				if !slices.Equal(x.Abs, want.Abs) {
					t.Errorf("%d: %s, of %s", i, told(x), told(want))
				}
				spoil(x)
			}
			is(t, "what was handed in", a, want)
		}
	}
}

// P5.5: what is not used any more does not change what was answered.
func TestNothingIsKept(t *testing.T) {
	for name, do := range answerCalls() {
		for _, n := range []int{1, 2, 3, 9, 30} {
			b := minus(mixed(n))
			a := sureOf(t)(whole.Mul(plus(mixed(n+3)), b))
			got := sureOf(t)(do(a, b))
			want := clone(got)
			spoil(a)
			spoil(b)
			is(t, name, got, want)
		}
	}
}

// P5.5: a text stays, whatever becomes of the number.
func TestTextMemory(t *testing.T) {
	for _, a := range numbers() {
		x := roomy(a)
		s, _ := whole.Text(x)
		want := strings.Clone(s)
		spoil(x)
		if s != want {
			t.Errorf("%s: %s", cut(want), cut(s))
		}
	}
}

// P5.5: what Of and Parse answer is new each time, and may be.
func TestNewEachTime(t *testing.T) {
	for _, n := range ints() {
		first := whole.Of(n)
		want := clone(first)
		spoil(first)
		is(t, "Of", whole.Of(n), want)
		if whole.Check(whole.Of(n)) != api.OK {
			t.Errorf("Of %d may not be", n)
		}
	}
	for _, s := range []string{"0", "1", "-1", "18446744073709551616", "-" + strings.Repeat("7", 100), "-" + strings.Repeat("9", api.MaxDigits)} {
		first := sureOf(t)(whole.Parse(s))
		want := clone(first)
		spoil(first)
		second := sureOf(t)(whole.Parse(s))
		is(t, "Parse "+cut(s), second, want)
		if whole.Check(second) != api.OK {
			t.Errorf("Parse %s: %s may not be", cut(s), told(second))
		}
	}
}
