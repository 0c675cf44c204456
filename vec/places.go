package vec

import (
	"facetroom/api"
	"facetroom/whole"
)

// place makes the number that stands at a place, in new memory.
type place func(i int) api.Int

// placed is a row of so many numbers, put together place by place.
func placed(long int, at place) api.Vec {
	l := make(api.Vec, long)
	for i := range l {
		l[i] = at(i)
	}
	return l
}

// joined is the row that is put together of a and b, if they are alike.
func joined(a, b api.Vec, at place) (api.Vec, api.Errno) {
	if e := alike(a, b); e != api.OK {
		return nil, e
	}
	return placed(len(a), at), api.OK
}

// alike is OK, if both rows may be and are of one length.
func alike(a, b api.Vec) api.Errno {
	for _, l := range []api.Vec{a, b} {
		if e := Check(l); e != api.OK {
			return e
		}
	}
	if len(a) != len(b) {
		return api.ErrDim
	}
	return api.OK
}

// numbersMayBe is OK, if all of these numbers may be.
func numbersMayBe(l ...api.Int) api.Errno {
	for _, x := range l {
		if e := whole.Check(x); e != api.OK {
			return e
		}
	}
	return api.OK
}

// sum is two numbers together that may be.
func sum(a, b api.Int) api.Int {
	both, _ := whole.Add(a, b)
	return both
}

// times is the product of two numbers that may be.
func times(a, b api.Int) api.Int {
	product, _ := whole.Mul(a, b)
	return product
}

// part is a by a common divisor of its row, which is not 0; both may be.
func part(a api.Int, common api.Nat) api.Int {
	quotient, _ := whole.Exact(a, api.Int{Abs: common})
	return quotient
}
