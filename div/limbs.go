package div

import (
	"math"
	"math/bits"
	"slices"

	"facetroom/api"
	"facetroom/nat"
)

// byLimbs guesses each limb of the quotient, and corrects it (Knuth's D).
func byLimbs(a, b api.Nat) (q, r api.Nat) {
	if len(a) < len(b) {
		return nil, slices.Clone(a)
	}
	if len(b) == 1 { // one limb by one needs no guess
		q, w := byWord(a, b[0])
		return q, nat.Of(w)
	}
	shift := bits.LeadingZeros64(b[len(b)-1])
	d := divisor{by: up(b, shift, len(b)+1), made: make([]uint64, len(b)+1)}
	left := up(a, shift, len(a)+1)
	q = make(api.Nat, len(a)-len(b)+1)
	for i := range slices.Backward(q) {
		q[i] = d.limb(left[i : i+len(d.by)])
	}
	r, _ = nat.Down(trim(left), shift) // less than a limb's bits: nat refuses none of them
	return trim(q), r
}

// up is a number, shifted up by less than a limb's bits, with noughts behind it to so many limbs.
func up(a api.Nat, shift, limbs int) []uint64 {
	l, _ := nat.Up(a, shift)
	return append(l, make([]uint64, limbs-len(l))...)
}

// divisor is what is divided by, shifted up, with one limb of 0 behind it, and room for a product of it by one limb.
type divisor struct{ by, made []uint64 }

// limb is the quotient's limb of what is left over, which is as long as d.by and less than it, raised by a limb; that product is taken away.
func (d divisor) limb(left []uint64) uint64 {
	guess := d.guess(left)
	d.times(guess)
correct:
	for { // twice at most, since the last limb of what is divided by has its highest bit
		for i, made := range slices.Backward(d.made) {
			switch {
			case made > left[i]:
				guess--
				less(d.made, d.by)
				continue correct
			case made < left[i]:
				break correct
			}
		}
		break // both are the same
	}
	less(left, d.made)
	return guess
}

// guess is, from the first two limbs of what is left over and the first one of what is divided by, at least the quotient's limb, and at most by two more.
func (d divisor) guess(left []uint64) uint64 {
	n := len(left)
	first := d.by[n-2]
	if left[n-1] >= first { // then these two alone would make more than a limb
		return math.MaxUint64
	}
	guess, _ := bits.Div64(left[n-1], left[n-2], first)
	return guess
}

// times puts the product by w in d.made; the limb of 0 leaves room for what is carried.
func (d divisor) times(w uint64) {
	var over uint64
	for i, x := range d.by {
		high, low := bits.Mul64(x, w)
		limb, carry := bits.Add64(low, over, 0)
		d.made[i], over = limb, high+carry
	}
}

// byWord goes down the limbs, each behind what the one above it left over.
func byWord(a api.Nat, w uint64) (q api.Nat, r uint64) {
	q = make(api.Nat, len(a))
	for i, x := range slices.Backward(a) {
		q[i], r = bits.Div64(r, x, w)
	}
	return trim(q), r
}

// less takes b away from a, which is as long, and tells whether a limb above is short of 1.
func less(a, b []uint64) (short uint64) {
	for i, x := range b {
		a[i], short = bits.Sub64(a[i], x, short)
	}
	return short
}

// trim drops noughts at the end, so that the number may be.
func trim(a api.Nat) api.Nat {
	n := len(a)
	for n > 0 && a[n-1] == 0 {
		n--
	}
	return a[:n]
}
