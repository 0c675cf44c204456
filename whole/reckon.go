package whole

import (
	"facetroom/api"
	"facetroom/div"
	"facetroom/nat"
)

// sum is a and b together, in new memory; both may be.
func sum(a, b api.Int) api.Int {
	switch both := signsOf(a, b); {
	case both == signs{true, false}:
		return difference(b.Abs, a.Abs)
	case both == signs{false, true}:
		return difference(a.Abs, b.Abs)
	}
	abs, _ := nat.Add(a.Abs, b.Abs)
	return signed(a.Neg, abs)
}

// difference is a without b, whichever is more, in new memory; both may be.
func difference(a, b api.Nat) api.Int {
	if abs, e := nat.Sub(a, b); e == api.OK {
		return signed(false, abs)
	}
	abs, _ := nat.Sub(b, a)
	return signed(true, abs)
}

// quotient is that of a by b, in new memory; away: where it is not whole it is rounded away from 0, else towards it.
func quotient(a, b api.Int, away bool) (api.Int, api.Errno) {
	if e := mayBe(a, b); e != api.OK {
		return api.Int{}, e
	}
	abs, rest, e := div.Div(a.Abs, b.Abs)
	if e != api.OK {
		return api.Int{}, e
	}
	if away && len(rest) > 0 {
		abs, _ = nat.Add(abs, nat.Of(1))
	}
	return signed(unlike(a, b), abs), api.OK
}
