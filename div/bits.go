package div

import "facetroom/api"

const limbBits = 64

// bitByBit takes the bits of a down, the highest first, and b away, wherever what is left over is no less.
func bitByBit(a, b api.Nat) (q, r api.Nat) {
	q, r = make(api.Nat, len(a)), make(api.Nat, len(b))
	try := make(api.Nat, len(b))
	for i := limbBits*len(a) - 1; i >= 0; i-- {
		place, bit := i/limbBits, uint(i%limbBits)
		over := double(r, a[place]>>bit&1)
		copy(try, r)
		if less(try, b) <= over { // what is short above is there
			q[place] |= 1 << bit
			r, try = try, r
		}
	}
	return trim(q), trim(r)
}

// double puts a bit below those of a, and answers the one that leaves it above.
func double(a []uint64, bit uint64) (over uint64) {
	over = bit
	for i, x := range a {
		a[i], over = x<<1|over, x>>(limbBits-1)
	}
	return over
}
