package nat_test

import (
	"slices"
	"testing"

	"facetroom/api"
	"facetroom/nat"
)

// sureOf makes a function that lets numbers through, and ends the test at an error.
func sureOf(t *testing.T) func(a api.Nat, e api.Errno) api.Nat {
	return func(a api.Nat, e api.Errno) api.Nat {
		t.Helper()
		if e != api.OK {
			t.Fatalf("error %d", int(e))
		}
		return a
	}
}

func compare(t *testing.T, a, b api.Nat) int {
	t.Helper()
	n, e := nat.Cmp(a, b)
	if e != api.OK {
		t.Fatalf("error %d", int(e))
	}
	return n
}

// P1.5: sums do not hang on their order, nor on which two are added first; they keep which is less.
func TestSums(t *testing.T) {
	sure := sureOf(t)
	for _, a := range numbers() {
		for _, b := range numbers() {
			ab := sure(nat.Add(a, b))
			if ba := sure(nat.Add(b, a)); !slices.Equal(ab, ba) {
				t.Errorf("%v, %v: %v, %v", a, b, ab, ba)
			}
			for _, c := range numbers() {
				bc := sure(nat.Add(b, c))
				if x, y := sure(nat.Add(ab, c)), sure(nat.Add(a, bc)); !slices.Equal(x, y) {
					t.Errorf("%v, %v, %v: %v, %v", a, b, c, x, y)
				}
				if x, y := compare(t, a, b), compare(t, sure(nat.Add(a, c)), bc); x != y {
					t.Errorf("%v, %v, with %v: %d, %d", a, b, c, x, y)
				}
			}
		}
	}
}

// P1.5: what is added and taken away again is as it was.
func TestAddedAndTakenAway(t *testing.T) {
	sure := sureOf(t)
	for _, a := range numbers() {
		for _, b := range numbers() {
			sum := sure(nat.Add(a, b))
			if x := sure(nat.Sub(sum, b)); !slices.Equal(x, a) {
				t.Errorf("%v, %v: %v", a, b, x)
			}
			if x := sure(nat.Sub(sum, a)); !slices.Equal(x, b) {
				t.Errorf("%v, %v: %v", a, b, x)
			}
			if compare(t, a, b) < 0 {
				continue
			}
			if x := sure(nat.Add(sure(nat.Sub(a, b)), b)); !slices.Equal(x, a) {
				t.Errorf("%v, %v: %v", a, b, x)
			}
		}
	}
}

// P1.5: Up is as adding a number to itself, as often; Down leads home.
func TestUpAndDown(t *testing.T) {
	sure := sureOf(t)
	for _, a := range numbers() {
		sum := a
		for bits := range 200 {
			up := sure(nat.Up(a, bits))
			if !slices.Equal(up, sum) {
				t.Errorf("%v, %d: %v, %v", a, bits, up, sum)
			}
			if x := sure(nat.Down(up, bits)); !slices.Equal(x, a) {
				t.Errorf("%v, %d: %v", a, bits, x)
			}
			sum = sure(nat.Add(sum, sum))
		}
		far := sure(nat.Up(a, api.MaxShift))
		if x := sure(nat.Down(far, api.MaxShift)); !slices.Equal(x, a) {
			t.Errorf("%v: %v", a, x)
		}
	}
}

// P1.5: Up raises how long a number is, and each of its bits, by as many.
func TestUpMovesBits(t *testing.T) {
	sure := sureOf(t)
	for _, a := range numbers() {
		long, _ := nat.Long(a)
		for _, bits := range []int{0, 1, 63, 64, 65, 65536} {
			up := sure(nat.Up(a, bits))
			want := long + bits
			if long == 0 {
				want = 0
			}
			if n, e := nat.Long(up); n != want || e != api.OK {
				t.Errorf("%v, %d: %d, error %d", a, bits, n, int(e))
			}
			for i := range long + 1 {
				x, _ := nat.Bit(a, i)
				if y, e := nat.Bit(up, i+bits); x != y || e != api.OK {
					t.Errorf("%v, %d: bit %d is %d, was %d", a, bits, i, y, x)
				}
			}
			if bits > 0 {
				if n, e := nat.Bit(up, bits-1); n != 0 || e != api.OK {
					t.Errorf("%v, %d: a bit below is %d", a, bits, n)
				}
			}
		}
	}
}
