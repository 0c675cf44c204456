package nat

import (
	"iter"

	"facetroom/api"
)

const limbBits = 64

// joiner makes one limb of two and of what the places below carry over (0 or 1), and tells what it carries over itself.
type joiner func(x, y, carry uint64) (limb, over uint64)

// join goes through two numbers place by place; over is what the last place carries.
func join(a, b api.Nat, how joiner) (joined api.Nat, over uint64) {
	joined = make(api.Nat, 0, max(len(a), len(b))+1) // one more: Add appends the carry
	for x, y := range pairs(a, b) {
		var z uint64
		z, over = how(x, y, over)
		joined = append(joined, z)
	}
	return joined, over
}

// pairs are the limbs of two numbers by their places, the lowest first, with 0 where one has ended.
func pairs(a, b api.Nat) iter.Seq2[uint64, uint64] {
	return func(yield func(x, y uint64) bool) {
		for i := range max(len(a), len(b)) {
			if !yield(limb(a, i), limb(b, i)) {
				return
			}
		}
	}
}

// limb is the limb at a place, 0 beyond the last one.
func limb(a api.Nat, i int) uint64 {
	if i < len(a) {
		return a[i]
	}
	return 0
}

// trim drops noughts at the end, so that the number may be.
func trim(a api.Nat) api.Nat {
	n := len(a)
	for n > 0 && a[n-1] == 0 {
		n--
	}
	return a[:n]
}

// mayBe is OK, if all of these numbers may be.
func mayBe(l ...api.Nat) api.Errno {
	for _, a := range l {
		if n := len(a); n > 0 && a[n-1] == 0 {
			return api.ErrBad
		}
	}
	return api.OK
}

// mayShift is OK, if a may be, and be shifted by so many bits.
func mayShift(a api.Nat, bits int) api.Errno {
	if e := mayBe(a); e != api.OK {
		return e
	}
	if bits < 0 || bits > api.MaxShift {
		return api.ErrArg
	}
	return api.OK
}
