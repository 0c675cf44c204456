package mul

import (
	"math/bits"

	"facetroom/api"
	"facetroom/nat"
)

// enough is how many limbs both must have, so that splitting them saves more than its sums cost (measured).
const enough = 200

// number is a number from 0 on that may be; its methods only read it.
type number api.Nat

// way makes a number's product with b, in new memory.
type way func(b number) number

// school multiplies each limb with each.
func (a number) school(b number) number {
	if len(a) == 0 || len(b) == 0 {
		return nil
	}
	made := make(number, len(a)+len(b))
	for i, x := range a {
		made[i+len(b)] = addRow(made[i:], x, b)
	}
	return made.trim()
}

// addRow adds x times b to the lowest limbs of made, and answers what they carry over.
func addRow(made number, x uint64, b number) uint64 {
	var over uint64
	for j, y := range b {
		high, low := bits.Mul64(x, y)
		low, c1 := bits.Add64(low, over, 0)
		limb, c2 := bits.Add64(made[j], low, 0)
		made[j], over = limb, high+c1+c2 // one limb: (2^64-1)^2 and two limbs more are below 2^128
	}
	return over
}

// split makes three products of halves, as long as both have more than one limb.
func (a number) split(b number) number {
	if min(len(a), len(b)) <= 1 {
		return a.school(b)
	}
	return a.inThree(b, number.split)
}

// quick takes for each size the way that is quicker.
func (a number) quick(b number) number {
	if min(len(a), len(b)) < enough {
		return a.school(b)
	}
	return a.inThree(b, number.quick)
}

// inThree splits both in a low and a high part, whose three products times makes.
func (a number) inThree(b number, times func(a, b number) number) number {
	place := (max(len(a), len(b)) + 1) / 2
	aLow, aHigh := a.at(place)
	bLow, bHigh := b.at(place)
	low, high := times(aLow, bLow), times(aHigh, bHigh)
	middle := rest(times(sum(aLow, aHigh), sum(bLow, bHigh)), low, high)
	return sum(low, middle.up(place), high.up(2*place))
}

// at is what stands below a place, and what stands from it on.
func (a number) at(place int) (low, high number) {
	place = min(place, len(a))
	return a[:place].trim(), a[place:]
}

// up puts noughts below; nat.Up does not go as far as numbers are long.
func (a number) up(places int) number {
	if len(a) == 0 {
		return nil
	}
	return append(make(number, places, places+len(a)), a...)
}

// power is a number, multiplied with itself n times.
func (a number) power(n int) number {
	made := number{1}
	for i := bits.Len(uint(n)) - 1; i >= 0; i-- {
		made = made.quick(made)
		if n>>i&1 == 1 {
			made = made.quick(a)
		}
	}
	return made
}

// trim drops noughts at the end, so that the number may be.
func (a number) trim() number {
	n := len(a)
	for n > 0 && a[n-1] == 0 {
		n--
	}
	return a[:n]
}

// sum is a and all of these together; nat refuses none, since they may be.
func sum(a number, l ...number) number {
	all := api.Nat(a)
	for _, b := range l {
		all, _ = nat.Add(all, api.Nat(b))
	}
	return number(all)
}

// rest is a without all of these, which are together no more than a, so that nat refuses none.
func rest(a number, l ...number) number {
	left := api.Nat(a)
	for _, b := range l {
		left, _ = nat.Sub(left, api.Nat(b))
	}
	return number(left)
}
