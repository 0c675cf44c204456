package nat_test

import (
	"math"
	"math/big"
	"slices"
	"testing"

	"facetroom/api"
	"facetroom/nat"
)

const top = math.MaxUint64

// numbers are the edges of one limb and of several, and numbers within.
func numbers() []api.Nat {
	return []api.Nat{
		nil, {}, {1}, {2}, {3}, {5}, {16}, {255}, {1 << 32}, {1<<63 - 1}, {1 << 63}, {1<<63 + 1}, {top - 1}, {top},
		{0, 1}, {1, 1}, {2, 1}, {1 << 63, 1}, {top, 1}, {0, 5}, {5, 1 << 63}, {0, top}, {1, top}, {top, top - 1}, {top - 1, top}, {top, top},
		{0, 0, 1}, {1, 2, 3}, {3, 2, 1}, {top, 0, 1}, {0, top, 1}, {1, 0, top}, {top, top, top},
		{0, 0, 0, 1}, {0, 0, 0, 1 << 63}, {top, top, top, top}, {7, 0, 0, 0, 0, 1},
		{0xfedcba9876543210, 0x0123456789abcdef, 0x8000000000000001, 0, 0x0f0f0f0f0f0f0f0f},
	}
}

// bad are lists of limbs that are no number.
func bad() []api.Nat {
	return []api.Nat{{0}, {0, 0}, {1, 0}, {top, 0}, {0, 1, 0}, {1, 2, 3, 0}, {top, top, 0, 0}}
}

func value(a api.Nat) *big.Int {
	v := new(big.Int)
	for _, x := range slices.Backward(a) {
		v.Lsh(v, 64).Or(v, new(big.Int).SetUint64(x))
	}
	return v
}

func limbs(v *big.Int) api.Nat {
	var a api.Nat
	for v.Sign() > 0 {
		a = append(a, new(big.Int).And(v, new(big.Int).SetUint64(top)).Uint64())
		v = new(big.Int).Rsh(v, 64)
	}
	return a
}

// is holds what a call answered against a number, limb by limb.
func is(t *testing.T, what string, got api.Nat, e api.Errno, want api.Nat) {
	t.Helper()
	if e != api.OK || !slices.Equal(got, want) {
		t.Errorf("%s: %v, error %d; want %v", what, got, int(e), want)
	}
}

// refused checks that beside an error there is nothing.
func refused(t *testing.T, what string, got api.Nat, e, want api.Errno) {
	t.Helper()
	if e != want || len(got) != 0 {
		t.Errorf("%s: %v, error %d; want error %d", what, got, int(e), int(want))
	}
}

// The table of the chapter's examples.
func TestExamples(t *testing.T) {
	sum, e := nat.Add(api.Nat{top}, api.Nat{1})
	is(t, "Add 2^64-1, 1", sum, e, api.Nat{0, 1})
	back, e := nat.Sub(sum, api.Nat{1})
	is(t, "Sub 2^64, 1", back, e, api.Nat{top})
	less, e := nat.Sub(api.Nat{1}, api.Nat{2})
	refused(t, "Sub 1, 2", less, e, api.ErrLess)
	for _, c := range []struct {
		a    api.Nat
		long int
	}{{nil, 0}, {api.Nat{1}, 1}, {api.Nat{0, 1}, 65}} {
		if n, e := nat.Long(c.a); n != c.long || e != api.OK {
			t.Errorf("Long %v: %d, error %d", c.a, n, int(e))
		}
	}
	up, e := nat.Up(api.Nat{3}, 63)
	is(t, "Up 3, 63", up, e, api.Nat{1 << 63, 1})
	down, e := nat.Down(api.Nat{0, 1}, 60)
	is(t, "Down 2^64, 60", down, e, api.Nat{16})
	if e := nat.Check(api.Nat{0}); e != api.ErrBad {
		t.Errorf("Check of one limb 0: error %d", int(e))
	}
	if w, e := nat.Word(api.Nat{0, 1}); w != 0 || e != api.ErrMany {
		t.Errorf("Word 2^64: %d, error %d", w, int(e))
	}
	for i, want := range map[int]int{2: 1, 99: 0} {
		if n, e := nat.Bit(api.Nat{5}, i); n != want || e != api.OK {
			t.Errorf("Bit 5, %d: %d, error %d", i, n, int(e))
		}
	}
}

// P1.1
func TestCheck(t *testing.T) {
	for _, a := range numbers() {
		if e := nat.Check(a); e != api.OK {
			t.Errorf("%v: error %d", a, int(e))
		}
	}
	for _, a := range bad() {
		if e := nat.Check(a); e != api.ErrBad {
			t.Errorf("%v: error %d", a, int(e))
		}
	}
}

// P1.1
func TestOf(t *testing.T) {
	for _, w := range []uint64{1, 2, 1<<63 - 1, 1 << 63, top - 1, top} {
		is(t, "Of", nat.Of(w), api.OK, api.Nat{w})
	}
	if a := nat.Of(0); len(a) != 0 {
		t.Errorf("Of 0: %v", a)
	}
}

// P1.1
func TestWord(t *testing.T) {
	for _, c := range []struct {
		a api.Nat
		w uint64
		e api.Errno
	}{
		{nil, 0, api.OK}, {api.Nat{}, 0, api.OK}, {api.Nat{1}, 1, api.OK}, {api.Nat{1 << 63}, 1 << 63, api.OK}, {api.Nat{top}, top, api.OK},
		{api.Nat{0, 1}, 0, api.ErrMany}, {api.Nat{5, 1}, 0, api.ErrMany}, {api.Nat{top, top}, 0, api.ErrMany}, {api.Nat{7, 0, 1}, 0, api.ErrMany},
	} {
		if w, e := nat.Word(c.a); w != c.w || e != c.e {
			t.Errorf("%v: %d, error %d; want %d, error %d", c.a, w, int(e), c.w, int(c.e))
		}
	}
	for _, a := range bad() {
		if w, e := nat.Word(a); w != 0 || e != api.ErrBad {
			t.Errorf("%v: %d, error %d", a, w, int(e))
		}
	}
}

// P1.1
func TestCmp(t *testing.T) {
	for _, a := range numbers() {
		for _, b := range numbers() {
			if n, e := nat.Cmp(a, b); n != value(a).Cmp(value(b)) || e != api.OK {
				t.Errorf("%v, %v: %d, error %d", a, b, n, int(e))
			}
		}
		for _, x := range bad() {
			for _, pair := range [][2]api.Nat{{x, a}, {a, x}, {x, x}} {
				if n, e := nat.Cmp(pair[0], pair[1]); n != 0 || e != api.ErrBad {
					t.Errorf("%v: %d, error %d", pair, n, int(e))
				}
			}
		}
	}
}

// P1.2
func TestAdd(t *testing.T) {
	for _, a := range numbers() {
		for _, b := range numbers() {
			sum, e := nat.Add(a, b)
			is(t, "Add", sum, e, limbs(new(big.Int).Add(value(a), value(b))))
		}
	}
}

// P1.2
func TestSub(t *testing.T) {
	for _, a := range numbers() {
		for _, b := range numbers() {
			rest, e := nat.Sub(a, b)
			if v := new(big.Int).Sub(value(a), value(b)); v.Sign() < 0 {
				refused(t, "Sub", rest, e, api.ErrLess)
			} else {
				is(t, "Sub", rest, e, limbs(v))
			}
		}
	}
}

// P1.2: a carry, and a borrow, that go through a thousand limbs.
func TestFarCarry(t *testing.T) {
	full := slices.Repeat(api.Nat{top}, 1000)
	next := append(make(api.Nat, 1000), 1)
	for _, c := range []struct{ a, b, sum api.Nat }{
		{full, api.Nat{1}, next},
		{api.Nat{1}, full, next},
		{full, full, append(append(api.Nat{top - 1}, full[1:]...), 1)},
	} {
		sum, e := nat.Add(c.a, c.b)
		is(t, "Add", sum, e, c.sum)
		back, e := nat.Sub(c.sum, c.b)
		is(t, "Sub", back, e, c.a)
	}
	one, e := nat.Sub(next, full)
	is(t, "Sub", one, e, api.Nat{1})
	less, e := nat.Sub(full, next)
	refused(t, "Sub", less, e, api.ErrLess)
	if n, e := nat.Cmp(full, next); n != -1 || e != api.OK {
		t.Errorf("Cmp: %d, error %d", n, int(e))
	}
}

// P1.2: numbers that may not be are looked for ahead of what is less.
func TestSumsRefuse(t *testing.T) {
	for _, x := range bad() {
		for _, a := range numbers() {
			for _, pair := range [][2]api.Nat{{x, a}, {a, x}, {x, x}} {
				sum, e := nat.Add(pair[0], pair[1])
				refused(t, "Add", sum, e, api.ErrBad)
				rest, e := nat.Sub(pair[0], pair[1])
				refused(t, "Sub", rest, e, api.ErrBad)
			}
		}
	}
}

// P1.3
func TestLong(t *testing.T) {
	for _, a := range numbers() {
		if n, e := nat.Long(a); n != value(a).BitLen() || e != api.OK {
			t.Errorf("%v: %d, error %d", a, n, int(e))
		}
	}
	for i := range 200 {
		a := limbs(new(big.Int).Lsh(big.NewInt(1), uint(i)))
		if n, e := nat.Long(a); n != i+1 || e != api.OK {
			t.Errorf("2^%d: %d, error %d", i, n, int(e))
		}
	}
	for _, a := range bad() {
		if n, e := nat.Long(a); n != 0 || e != api.ErrBad {
			t.Errorf("%v: %d, error %d", a, n, int(e))
		}
	}
}

// P1.3
func TestBit(t *testing.T) {
	for _, a := range numbers() {
		v := value(a)
		for i := range v.BitLen() + 130 {
			if n, e := nat.Bit(a, i); n != int(v.Bit(i)) || e != api.OK {
				t.Errorf("%v, %d: %d, error %d", a, i, n, int(e))
			}
		}
		for _, i := range []int{65535, 65536, 65537, math.MaxInt32, math.MaxInt - 63, math.MaxInt} {
			if n, e := nat.Bit(a, i); n != 0 || e != api.OK {
				t.Errorf("%v, %d: %d, error %d", a, i, n, int(e))
			}
		}
		for _, i := range []int{-1, -63, -64, -65, math.MinInt} {
			if n, e := nat.Bit(a, i); n != 0 || e != api.ErrArg {
				t.Errorf("%v, %d: %d, error %d", a, i, n, int(e))
			}
		}
	}
	for _, a := range bad() {
		for _, i := range []int{-1, 0, 64, 65537} {
			if n, e := nat.Bit(a, i); n != 0 || e != api.ErrBad {
				t.Errorf("%v, %d: %d, error %d", a, i, n, int(e))
			}
		}
	}
}

// P1.3: no limit is set to a bit's place, nor to how long a number is.
func TestFarBits(t *testing.T) {
	a := append(append(make(api.Nat, 1024), 1), append(make(api.Nat, 975), 1)...) // 2^65536 and 2^128000
	for i, want := range map[int]int{0: 0, 65535: 0, 65536: 1, 65537: 0, 127999: 0, 128000: 1, 128001: 0, 128064: 0} {
		if n, e := nat.Bit(a, i); n != want || e != api.OK {
			t.Errorf("%d: %d, error %d", i, n, int(e))
		}
	}
	if n, e := nat.Long(a); n != 128001 || e != api.OK {
		t.Errorf("Long: %d, error %d", n, int(e))
	}
}

// P1.3
func TestShift(t *testing.T) {
	for _, a := range numbers() {
		for _, bits := range []int{0, 1, 2, 31, 32, 33, 62, 63, 64, 65, 127, 128, 129, 191, 192, 193, 255, 256, 257, 320, 1000, 65472, 65535, 65536} {
			up, e := nat.Up(a, bits)
			is(t, "Up", up, e, limbs(new(big.Int).Lsh(value(a), uint(bits))))
			down, e := nat.Down(a, bits)
			is(t, "Down", down, e, limbs(new(big.Int).Rsh(value(a), uint(bits))))
		}
	}
	far := append(make(api.Nat, 1024), 5)
	down, e := nat.Down(far, 65536)
	is(t, "Down 65536", down, e, api.Nat{5})
	up, e := nat.Up(far, 65536)
	is(t, "Up 65536", up, e, append(make(api.Nat, 2048), 5))
}

// P1.3: 0 is refused as any other number is, and a number that may not be ahead of how far it is shifted.
func TestShiftRefuses(t *testing.T) {
	for _, bits := range []int{math.MinInt, -65536, -64, -1, 65537, 65600, 1 << 32, math.MaxInt} {
		for _, a := range numbers() {
			up, e := nat.Up(a, bits)
			refused(t, "Up", up, e, api.ErrArg)
			down, e := nat.Down(a, bits)
			refused(t, "Down", down, e, api.ErrArg)
		}
	}
	for _, bits := range []int{math.MinInt, -1, 0, 1, 64, 65536, 65537, math.MaxInt} {
		for _, a := range bad() {
			up, e := nat.Up(a, bits)
			refused(t, "Up", up, e, api.ErrBad)
			down, e := nat.Down(a, bits)
			refused(t, "Down", down, e, api.ErrBad)
		}
	}
}
