package vec_test

import (
	"slices"
	"testing"

	"facetroom/api"
	"facetroom/vec"
)

const mark = 0x5a5a5a5a5a5a5a5a

// room is more than what a call needs behind a number, or a row.
const room = 30

// roomyInt is a number with marked room behind it.
func roomyInt(a api.Int) api.Int {
	return api.Int{Neg: a.Neg, Abs: append(slices.Clone(a.Abs), slices.Repeat(api.Nat{mark}, room)...)[:len(a.Abs)]}
}

// roomy is a row of such numbers, with marked room behind it.
func roomy(a api.Vec) api.Vec {
	b := make(api.Vec, len(a), len(a)+room)
	for i, x := range a {
		b[i] = roomyInt(x)
	}
	return append(b, times(room, plus(api.Nat{mark}))...)[:len(a)]
}

// keptInt tells whether a number and its room are as roomyInt made them.
func keptInt(x, a api.Int) bool {
	n := len(a.Abs)
	all := x.Abs[:n+room]
	return x.Neg == a.Neg && len(x.Abs) == n && slices.Equal(all[:n], a.Abs) && slices.Equal(all[n:], slices.Repeat(api.Nat{mark}, room))
}

// kept tells likewise of a row.
func kept(x, a api.Vec) bool {
	return slices.EqualFunc(x, a, keptInt) && same(x[len(a):len(a)+room], times(room, plus(api.Nat{mark})))
}

// spoilInt writes on a number's limbs, with the room behind them.
func spoilInt(a api.Int) {
	l := a.Abs[:cap(a.Abs)]
	for i := range l {
		l[i] = ^l[i]
	}
}

// spoil writes on a row's numbers, and on the row, with the room behind it.
func spoil(a api.Vec) {
	l := a[:cap(a)]
	for i := range l {
		spoilInt(l[i])
		l[i] = minus(api.Nat{13})
	}
}

func cloneOf(a api.Vec) api.Vec {
	b := slices.Clone(a)
	for i := range b {
		b[i].Abs = slices.Clone(b[i].Abs)
	}
	return b
}

// apart tells whether no two numbers of a row share memory: what is written on one is not seen in another.
func apart(a api.Vec) bool {
	was := cloneOf(a)
	for i := range a {
		spoilInt(a[i])
		for k := range a {
			if k != i && !sameInt(a[k], was[k]) {
				return false
			}
		}
		spoilInt(a[i])
	}
	return true
}

// tried are rows of all lengths for memory: few of each.
func tried() []api.Vec {
	l := slices.Concat(rows(0), rows(1), some(2), some(5))
	return append(l, rows(api.MaxVec)[4], rows(api.MaxVec)[8])
}

// answers checks an answer: with keep all arguments are as they were, also where it is written on; asked again the answer is the same.
func answers(t *testing.T, what string, do func() (api.Vec, api.Errno), keep func() bool) {
	t.Helper()
	first, e1 := do()
	if !keep() {
		t.Fatalf("%s: arguments are changed", what)
	}
	if !apart(first) {
		t.Fatalf("%s: numbers of the answer share memory", what)
	}
	want := cloneOf(first)
	spoil(first)
	if !keep() {
		t.Fatalf("%s: shares memory with an argument", what)
	}
	if second, e2 := do(); e1 != e2 || !same(second, want) {
		t.Fatalf("%s: %s, then %s", what, told(want), told(second))
	}
}

// P7.3: calls of two rows, of which some may not be, and some are not of one length.
func TestPairMemory(t *testing.T) {
	all := slices.Concat(tried(), fewBad())
	for name, do := range pairCalls() {
		for _, a := range all {
			for _, b := range all {
				x, y := roomy(a), roomy(b)
				keep := func() bool { return kept(x, a) && kept(y, b) }
				answers(t, name+" "+told(a)+", "+told(b), func() (api.Vec, api.Errno) { return do(x, y) }, keep)
			}
		}
	}
}

// P7.3: calls of a row alone, Twin of such as may not be among them.
func TestLoneMemory(t *testing.T) {
	for name, do := range loneCalls() {
		for _, a := range slices.Concat(allRows(), badRows()) {
			x := roomy(a)
			answers(t, name+" "+told(a), func() (api.Vec, api.Errno) { return do(x) }, func() bool { return kept(x, a) })
		}
	}
}

// P7.3: Scale and Mix, which take numbers too.
func TestNumbersMemory(t *testing.T) {
	one, less := plus(api.Nat{1}), minus(api.Nat{1})
	for _, n := range slices.Concat(numbers(), badNumbers()) {
		for _, a := range slices.Concat(tried(), badRows()[:5]) {
			m, x, y := roomyInt(n), roomy(a), roomy(opposite(a))
			keep := func() bool { return keptInt(m, n) && kept(x, a) && kept(y, opposite(a)) }
			for name, do := range map[string]func() (api.Vec, api.Errno){
				"Scale":           func() (api.Vec, api.Errno) { return vec.Scale(x, m) },
				"Mix":             func() (api.Vec, api.Errno) { return vec.Mix(m, x, m, y) },
				"Mix with 1":      func() (api.Vec, api.Errno) { return vec.Mix(one, x, m, y) },
				"Mix with 0":      func() (api.Vec, api.Errno) { return vec.Mix(m, x, api.Int{}, y) },
				"Mix with -1, 0":  func() (api.Vec, api.Errno) { return vec.Mix(less, x, api.Int{}, y) },
				"Mix with itself": func() (api.Vec, api.Errno) { return vec.Mix(m, x, one, x) },
			} {
				answers(t, name+" "+told(a)+", "+toldInt(n), do, keep)
			}
		}
	}
}

// P7.3: one row in both places, and one number's memory in all places of a row.
func TestTwiceTheSame(t *testing.T) {
	for _, n := range numbers() {
		x := roomyInt(n)
		a := times(5, x)
		keep := func() bool { return keptInt(x, n) && same(a, times(5, n)) }
		for name, do := range pairCalls() {
			answers(t, name+" of a row twice", func() (api.Vec, api.Errno) { return do(a, a) }, keep)
		}
		for name, do := range loneCalls() {
			answers(t, name+" of one number's memory", func() (api.Vec, api.Errno) { return do(a) }, keep)
		}
		answers(t, "Scale by a number of the row", func() (api.Vec, api.Errno) { return vec.Scale(a, x) }, keep)
		answers(t, "Mix by numbers of the row", func() (api.Vec, api.Errno) { return vec.Mix(x, a, x, a) }, keep)
	}
}

// P7.3: Of's ints, which are handed in as a list.
func TestOfMemory(t *testing.T) {
	for _, long := range []int{0, 1, 5, 64, 100} {
		ints := append(make([]int, long), 7, 8, 9)[:long]
		for i := range ints {
			ints[i] = 3*i - 20
		}
		want := slices.Clone(ints[:long+3])
		keep := func() bool { return slices.Equal(ints[:long+3], want) }
		answers(t, "Of", func() (api.Vec, api.Errno) { return vec.Of(ints...), api.OK }, keep)
		a := vec.Of(ints...)
		was := cloneOf(a)
		clear(ints)
		is(t, "Of, the ints changed", a, was)
	}
}

// P7.3: what is asked only reads.
func TestAskingOnlyReads(t *testing.T) {
	all := slices.Concat(tried(), fewBad())
	for _, a := range all {
		x := roomy(a)
		vec.Check(x)
		vec.Zero(x)
		for _, b := range all {
			y := roomy(b)
			vec.Same(x, y)
			if !kept(x, a) || !kept(y, b) {
				t.Fatalf("%s, %s: arguments are changed", told(a), told(b))
			}
		}
	}
}

// P7.3: what is not used any more does not change what was answered.
func TestNothingIsKept(t *testing.T) {
	for name, do := range pairCalls() {
		for _, a := range tried() {
			x, y := cloneOf(a), cloneOf(opposite(a))
			got, _ := do(x, y)
			want := cloneOf(got)
			spoil(x)
			spoil(y)
			is(t, name+" "+told(a), got, want)
		}
	}
	for name, do := range loneCalls() {
		for _, a := range tried() {
			x := cloneOf(a)
			got, _ := do(x)
			want := cloneOf(got)
			spoil(x)
			is(t, name+" "+told(a), got, want)
		}
	}
}
