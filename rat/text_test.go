package rat_test

import (
	"math/big"
	"strings"
	"testing"

	"facetroom/api"
	"facetroom/rat"
)

// tells holds what Text answers against a text.
func tells(t *testing.T, a api.Rat, want string) {
	t.Helper()
	if s, e := rat.Text(a); s != want || e != api.OK {
		t.Errorf("Text %s: %q (%d bytes), error %d; want %q (%d bytes)", told(a), cut(s), len(s), int(e), cut(want), len(want))
	}
}

func tellsNothing(t *testing.T, a api.Rat, want api.Errno) {
	t.Helper()
	if s, e := rat.Text(a); s != "" || e != want {
		t.Errorf("Text %s: %q (%d bytes), error %d; want error %d", told(a), cut(s), len(s), int(e), int(want))
	}
}

// P6.2: Num, and, if Den is not 1, / and Den.
func TestTexts(t *testing.T) {
	for _, a := range fractions() {
		tells(t, a, worth(a).RatString())
	}
	for num := int64(-30); num <= 30; num++ {
		for den := int64(1); den <= 30; den++ {
			a := small(num, den)
			tells(t, a, worth(a).RatString())
		}
	}
	for _, c := range []struct {
		num, den int64
		want     string
	}{{0, 1, "0"}, {0, 5, "0"}, {1, 1, "1"}, {-1, 1, "-1"}, {1, 10, "1/10"}, {-1, 10, "-1/10"}, {10, 1, "10"}, {10, 3, "10/3"}, {-120, 100, "-6/5"}, {1, 11, "1/11"}, {7, 100, "7/100"}} {
		tells(t, small(c.num, c.den), c.want)
	}
	tells(t, by(plus(api.Nat{1}), 0, 1), "1/18446744073709551616")
	tells(t, by(minus(api.Nat{0, 1}), top), "-18446744073709551616/18446744073709551615")
	tells(t, by(plus(api.Nat{5}), 1, 1), "5/18446744073709551617") // a first limb of 1 is not yet 1
}

// ten is 10^n.
func ten(n int64) *big.Int { return new(big.Int).Exp(big.NewInt(10), big.NewInt(n), nil) }

// P6.2: as many digits as there may be, in Num and in Den, and one more; a - is no digit.
func TestMostDigits(t *testing.T) {
	nines := strings.Repeat("9", api.MaxDigits)
	ones := "1" + strings.Repeat("0", api.MaxDigits-1)
	most, more := number(new(big.Int).Sub(ten(api.MaxDigits), big.NewInt(1))), number(ten(api.MaxDigits))
	least := number(ten(api.MaxDigits - 1))
	one := api.Nat{1}
	tells(t, by(most, 1), nines)
	tells(t, by(minus(most.Abs), 1), "-"+nines)
	tells(t, by(plus(one), most.Abs...), "1/"+nines)
	tells(t, by(minus(one), least.Abs...), "-1/"+ones)
	tells(t, by(minus(most.Abs), least.Abs...), "-"+nines+"/"+ones)
	tells(t, by(least, most.Abs...), ones+"/"+nines)
	for _, a := range []api.Rat{
		by(more, 1), by(minus(more.Abs), 1), by(more, 3), by(minus(more.Abs), 3),
		by(plus(one), more.Abs...), by(minus(one), more.Abs...), by(most, more.Abs...), by(minus(most.Abs), more.Abs...),
		by(more, most.Abs...), by(more, number(new(big.Int).Add(ten(api.MaxDigits), big.NewInt(1))).Abs...),
		by(plus(full(1100)), 1), by(plus(one), full(1100)...),
	} {
		tellsNothing(t, a, api.ErrMany)
	}
}

// P6.2: what is no fraction is looked for ahead of digits that are too many.
func TestTextOrder(t *testing.T) {
	more := number(ten(api.MaxDigits))
	for _, a := range []api.Rat{by(more), by(more, 0), by(more, 10), by(plus(api.Nat{10}), more.Abs...), by(api.Int{}, more.Abs...), by(api.Int{Neg: true}, more.Abs...), by(plus(api.Nat{0}), more.Abs...), by(more, more.Abs...)} {
		tellsNothing(t, a, api.ErrBad)
	}
}
