package rat

import (
	"facetroom/api"
	"facetroom/div"
	"facetroom/gcd"
	"facetroom/nat"
	"facetroom/whole"
)

// making makes a num and a den, of fractions that may be; of others it is not asked.
type making func() (num, den api.Int)

// reckon makes one whole number of two.
type reckon func(a, b api.Int) (api.Int, api.Errno)

// joined is the fraction that is made of a and b, if both may be.
func joined(a, b api.Rat, how making) (api.Rat, api.Errno) {
	if e := allMayBe(Check, a, b); e != api.OK {
		return api.Rat{}, e
	}
	return Of(how())
}

// overOne brings a and b to one den, and makes one num of theirs.
func overOne(a, b api.Rat, how reckon) making {
	return func() (num, den api.Int) {
		num, _ = how(crossed(a, b))
		return num, times(plus(a.Den), plus(b.Den))
	}
}

// crossed are the nums that a and b have by the product of both dens.
func crossed(a, b api.Rat) (x, y api.Int) {
	return times(a.Num, plus(b.Den)), times(b.Num, plus(a.Den))
}

// rounded is the whole number that how makes of a's num and den.
func rounded(a api.Rat, how reckon) (api.Int, api.Errno) {
	if e := Check(a); e != api.OK {
		return api.Int{}, e
	}
	return how(a.Num, plus(a.Den))
}

// lowest is num by den, which is not 0, in lowest terms and in new memory; both may be.
func lowest(num, den api.Int) api.Rat {
	common, _ := gcd.Gcd(num.Abs, den.Abs)
	top, _ := whole.Exact(num, api.Int{Neg: den.Neg, Abs: common}) // a den below 0 turns num's sign
	bottom, _ := div.Exact(den.Abs, common)
	return api.Rat{Num: top, Den: bottom}
}

// times is the product of two numbers that may be, in new memory.
func times(a, b api.Int) api.Int {
	product, _ := whole.Mul(a, b)
	return product
}

// plus is a number from 0 on as a whole one, in its own memory.
func plus(a api.Nat) api.Int { return api.Int{Abs: a} }

// isOne tells whether a number that may be is 1.
func isOne(a api.Nat) bool {
	w, e := nat.Word(a)
	return e == api.OK && w == 1
}

// allMayBe is OK, if all of these numbers may be, as the check of their kind tells.
func allMayBe[Number any](check func(Number) api.Errno, l ...Number) api.Errno {
	for _, a := range l {
		if e := check(a); e != api.OK {
			return e
		}
	}
	return api.OK
}
