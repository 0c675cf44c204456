package gcd

import (
	"math/bits"
	"slices"

	"facetroom/api"
	"facetroom/div"
	"facetroom/mul"
	"facetroom/nat"
)

const limbBits = 64

// common is the greatest common divisor of two numbers that may be, in new memory.
func common(a, b api.Nat) api.Nat {
	if order, _ := nat.Cmp(a, b); order < 0 {
		a, b = b, a
	}
	for len(b) > 1 {
		a, b = lower(a, b)
	}
	if len(b) == 0 {
		return slices.Clone(a) // it may be what was handed in
	}
	_, rest, _ := div.Word(a, b[0])
	return nat.Of(commonWord(b[0], rest))
}

// commonWord is the greatest common divisor of two words.
func commonWord(a, b uint64) uint64 {
	for b > 0 {
		a, b = b, a%b
	}
	return a
}

// lower goes some of Euclid's steps from a and b, which is no more than a and has more than one limb: as many as are sure, but one at least.
func lower(a, b api.Nat) (api.Nat, api.Nat) {
	s := sureSteps(tops(a, b))
	switch {
	case s.first.ofB == 0: // none was sure
		_, rest, _ := div.Div(a, b)
		return b, rest
	case s.odd:
		return less(b, s.first.ofB, a, s.first.ofA), less(a, s.second.ofA, b, s.second.ofB)
	}
	return less(a, s.first.ofA, b, s.first.ofB), less(b, s.second.ofB, a, s.second.ofA)
}

// less is n times a without m times b, which is no more.
func less(a api.Nat, n uint64, b api.Nat, m uint64) api.Nat {
	more, _ := mul.Mul(nat.Of(n), a)
	fewer, _ := mul.Mul(nat.Of(m), b)
	rest, _ := nat.Sub(more, fewer)
	return rest
}

// tops are the highest bits of a, as many as a limb has, and what b has at the same places.
func tops(a, b api.Nat) (topA, topB uint64) {
	last := len(a) - 1
	shift := bits.LeadingZeros64(a[last])
	top := func(x api.Nat) uint64 {
		return limb(x, last)<<shift | limb(x, last-1)>>(limbBits-shift)
	}
	return top(a), top(b)
}

// limb is the limb at a place, 0 beyond the last one.
func limb(a api.Nat, i int) uint64 {
	if i < len(a) {
		return a[i]
	}
	return 0
}

// share is a number that Euclid's steps make of a and b: so many times the one, less so many times the other one. Its top is what comes of their tops alone.
type share struct{ top, ofA, ofB uint64 }

// steps are the two numbers that some steps leave: the first one is some of a less some of b, and the second one some of b less some of a; odd: the other way round.
type steps struct {
	first, second share
	odd           bool
}

// sureSteps goes Euclid's steps on the tops of a and b, the first one no less, as long as they are a's and b's own steps too (Collins): what stands below the tops moves a number by less than ofB units of its top, and by that it may neither come below 0, nor up to the one ahead. All stays below 2^64: ofB times the top ahead is at most a's top, and ofA times it at most b's.
func sureSteps(topA, topB uint64) steps {
	s := steps{first: share{top: topA, ofA: 1}, second: share{top: topB, ofB: 1}}
	for s.second.top > 0 {
		third := left(s.first, s.second)
		if third.top < third.ofB || s.second.top-third.top < s.second.ofB+third.ofB {
			break
		}
		s = steps{first: s.second, second: third, odd: !s.odd}
	}
	return s
}

// left is what is left over of the first number, divided by the second one. What one has some of the other one lacks some of: so both add up.
func left(first, second share) share {
	q, top := first.top/second.top, first.top%second.top
	return share{top: top, ofA: first.ofA + q*second.ofA, ofB: first.ofB + q*second.ofB}
}
