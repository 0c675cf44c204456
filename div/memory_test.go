package div_test

import (
	"slices"
	"testing"

	"facetroom/api"
	"facetroom/div"
	"facetroom/nat"
)

// reckon has every call, as one of two numbers; what it doesn't take it lets be.
func reckon() map[string]divide {
	m := ways()
	m["Exact"] = func(a, b api.Nat) (q, r api.Nat, e api.Errno) {
		q, e = div.Exact(a, b)
		return q, nil, e
	}
	for name, w := range map[string]uint64{" 0": 0, " 1": 1, " 3": 3, " 2^63": half, " 2^64-1": top} {
		m["Word"+name] = func(a, _ api.Nat) (q, r api.Nat, e api.Errno) {
			q, left, e := div.Word(a, w)
			return q, nat.Of(left), e
		}
	}
	return m
}

const mark = 0x5a5a5a5a5a5a5a5a

// room is more than what a call needs behind a number.
const room = 40

// roomy is a number with marked room behind it.
func roomy(a api.Nat) api.Nat {
	return append(slices.Clone(a), slices.Repeat(api.Nat{mark}, room)...)[:len(a)]
}

// kept tells whether a number and its room are as roomy made them.
func kept(l, a api.Nat) bool {
	all := l[:len(a)+room]
	return slices.Equal(all[:len(a)], a) && slices.Equal(all[len(a):], slices.Repeat(api.Nat{mark}, room))
}

func spoil(l api.Nat) {
	l = l[:cap(l)]
	for i := range l {
		l[i] = ^l[i]
	}
}

// everyTwo goes through all pairs, of numbers and of what is none.
func everyTwo(do func(a, b api.Nat)) {
	all := slices.Concat(numbers(), bad(), []api.Nat{mixed(8), mixed(15), full(20), gaps(29)})
	for _, a := range all {
		for _, b := range all {
			do(a, b)
		}
	}
}

// P3.2: arguments, and the room behind them, stay as they were, also where what is answered is written on; what is answered may be, and does not hang on what was answered ahead.
func TestMemory(t *testing.T) {
	for name, do := range reckon() {
		everyTwo(func(a, b api.Nat) {
			x, y := roomy(a), roomy(b)
			q, r, e1 := do(x, y)
			if !kept(x, a) || !kept(y, b) {
				t.Fatalf("%s of %v, %v: arguments are changed", name, told(a), told(b))
			}
			if e1 == api.OK && (nat.Check(q) != api.OK || nat.Check(r) != api.OK) {
				t.Fatalf("%s of %v, %v: %v, %v may not be", name, told(a), told(b), told(q), told(r))
			}
			wantQ, wantR := slices.Clone(q), slices.Clone(r)
			spoil(q)
			if !slices.Equal(r, wantR) {
				t.Fatalf("%s of %v, %v: both answers share memory", name, told(a), told(b))
			}
			wantQ2 := slices.Clone(q)
			spoil(r)
			if !slices.Equal(q, wantQ2) {
				t.Fatalf("%s of %v, %v: both answers share memory", name, told(a), told(b))
			}
			if !kept(x, a) || !kept(y, b) {
				t.Fatalf("%s of %v, %v: shares memory with an argument", name, told(a), told(b))
			}
			q, r, e2 := do(x, y)
			if e1 != e2 || !slices.Equal(q, wantQ) || !slices.Equal(r, wantR) {
				t.Fatalf("%s of %v, %v: %v, %v, then %v, %v", name, told(a), told(b), told(wantQ), told(wantR), told(q), told(r))
			}
		})
	}
}

// P3.2: one number in both places.
func TestTwiceTheSame(t *testing.T) {
	for name, by := range ways() {
		for _, a := range above(append(numbers(), mixed(30))) {
			x := roomy(a)
			q, r, e := by(x, x)
			well(t, e)
			is(t, name, q, api.Nat{1})
			is(t, name+", left over", r, nil)
			spoil(q)
			spoil(r)
			if !kept(x, a) {
				t.Errorf("%s: %v is changed", name, told(a))
			}
		}
	}
}

// P3.2: what is not used any more does not change what was answered.
func TestNothingIsKept(t *testing.T) {
	for name, do := range reckon() {
		for _, n := range []int{1, 2, 3, 9, 30} {
			for _, m := range []int{1, 2, 3, 9, 30} {
				a, b := mixed(n), gaps(m)
				q, r, _ := do(a, b)
				wantQ, wantR := slices.Clone(q), slices.Clone(r)
				spoil(a)
				spoil(b)
				if !slices.Equal(q, wantQ) || !slices.Equal(r, wantR) {
					t.Errorf("%s: %v, %v, then %v, %v", name, told(wantQ), told(wantR), told(q), told(r))
				}
			}
		}
	}
}

// P3.2: a number by 1, and what is left over of one by a greater one, are new memory too.
func TestSameNumberIsNew(t *testing.T) {
	for _, n := range []int{1, 2, 5, 30} {
		a := mixed(n)
		want := slices.Clone(a)
		answers := []api.Nat{sureOf(t)(div.Exact(a, api.Nat{1}))}
		word, _, e := div.Word(a, 1)
		well(t, e)
		answers = append(answers, word)
		for _, by := range ways() {
			q, _, e := by(a, api.Nat{1})
			well(t, e)
			_, r, e := by(a, bare(n+1))
			well(t, e)
			answers = append(answers, q, r)
		}
		for i, x := range answers {
			if !slices.Equal(x, want) {
				t.Errorf("%d: %v, want %v", i, told(x), told(want))
			}
			spoil(x)
		}
		if !slices.Equal(a, want) {
			t.Errorf("%v is now %v", told(want), told(a))
		}
	}
}
