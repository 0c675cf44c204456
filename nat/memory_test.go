package nat_test

import (
	"slices"
	"testing"

	"facetroom/api"
	"facetroom/nat"
)

// reckon has every call that answers a number, as one of two; what it doesn't take it lets be.
func reckon() map[string]func(a, b api.Nat) (api.Nat, api.Errno) {
	m := map[string]func(a, b api.Nat) (api.Nat, api.Errno){
		"Add": nat.Add,
		"Sub": nat.Sub,
		"Of": func(a, _ api.Nat) (api.Nat, api.Errno) {
			if len(a) == 0 {
				return nat.Of(0), api.OK
			}
			return nat.Of(a[0]), api.OK
		},
	}
	for name, bits := range map[string]int{" -1": -1, " 0": 0, " 1": 1, " 63": 63, " 64": 64, " 65": 65, " 128": 128, " 65536": 65536, " 65537": 65537} {
		m["Up"+name] = func(a, _ api.Nat) (api.Nat, api.Errno) { return nat.Up(a, bits) }
		m["Down"+name] = func(a, _ api.Nat) (api.Nat, api.Errno) { return nat.Down(a, bits) }
	}
	return m
}

// ask has every call that answers none.
func ask() map[string]func(a, b api.Nat) {
	return map[string]func(a, b api.Nat){
		"Check": func(a, _ api.Nat) { nat.Check(a) },
		"Word":  func(a, _ api.Nat) { nat.Word(a) },
		"Cmp":   func(a, b api.Nat) { nat.Cmp(a, b) },
		"Long":  func(a, _ api.Nat) { nat.Long(a) },
		"Bit":   func(a, _ api.Nat) { nat.Bit(a, 0); nat.Bit(a, 1); nat.Bit(a, 64); nat.Bit(a, 1000); nat.Bit(a, -1) },
	}
}

const mark = 0x5a5a5a5a5a5a5a5a

// roomy is a number with marked room behind it.
func roomy(a api.Nat) api.Nat {
	l := append(slices.Clone(a), mark, mark, mark, mark)
	return l[:len(a)]
}

// kept tells whether a number and its room are as roomy made them.
func kept(l, a api.Nat) bool {
	all := l[:len(a)+4]
	return slices.Equal(all[:len(a)], a) && slices.Equal(all[len(a):], api.Nat{mark, mark, mark, mark})
}

func spoil(l api.Nat) {
	l = l[:cap(l)]
	for i := range l {
		l[i] = ^l[i]
	}
}

// everyTwo goes through all pairs, of numbers and of what is none.
func everyTwo(do func(a, b api.Nat)) {
	all := append(numbers(), bad()...)
	for _, a := range all {
		for _, b := range all {
			do(a, b)
		}
	}
}

// P1.4: arguments, and the room behind them, stay as they were, also where what is answered is written on; and what is answered once does not hang on that.
func TestMemory(t *testing.T) {
	for name, do := range reckon() {
		everyTwo(func(a, b api.Nat) {
			x, y := roomy(a), roomy(b)
			first, e1 := do(x, y)
			if !kept(x, a) || !kept(y, b) {
				t.Fatalf("%s of %v, %v: arguments are now %v, %v", name, a, b, x, y)
			}
			want := slices.Clone(first)
			second, e2 := do(x, y)
			spoil(first)
			if !kept(x, a) || !kept(y, b) {
				t.Fatalf("%s of %v, %v: shares memory with an argument", name, a, b)
			}
			if e1 != e2 || !slices.Equal(second, want) {
				t.Fatalf("%s of %v, %v: %v, then %v", name, a, b, want, second)
			}
			third, e3 := do(x, y)
			if e3 != e1 || !slices.Equal(third, want) {
				t.Fatalf("%s of %v, %v: %v, later %v", name, a, b, want, third)
			}
			if e1 == api.OK && nat.Check(third) != api.OK {
				t.Fatalf("%s of %v, %v: %v may not be", name, a, b, third)
			}
		})
	}
}

// P1.4
func TestAskingOnlyReads(t *testing.T) {
	for name, do := range ask() {
		everyTwo(func(a, b api.Nat) {
			x, y := roomy(a), roomy(b)
			do(x, y)
			if !kept(x, a) || !kept(y, b) {
				t.Fatalf("%s of %v, %v: arguments are now %v, %v", name, a, b, x, y)
			}
		})
	}
}

// P1.4: one number in both places.
func TestTwiceTheSame(t *testing.T) {
	for _, a := range numbers() {
		x := roomy(a)
		sum, e := nat.Add(x, x)
		is(t, "Add", sum, e, sureOf(t)(nat.Up(a, 1)))
		rest, e := nat.Sub(x, x)
		is(t, "Sub", rest, e, nil)
		if n, e := nat.Cmp(x, x); n != 0 || e != api.OK {
			t.Errorf("%v: %d, error %d", a, n, int(e))
		}
		if !kept(x, a) {
			t.Errorf("%v is now %v", a, x)
		}
	}
}

// P1.4: what is not used any more does not change what was answered.
func TestNothingIsKept(t *testing.T) {
	for name, do := range reckon() {
		a, b := api.Nat{7, 8, 9}, api.Nat{1, 2, 3}
		got, _ := do(a, b)
		want := slices.Clone(got)
		spoil(a)
		spoil(b)
		if !slices.Equal(got, want) {
			t.Errorf("%s: %v, then %v", name, want, got)
		}
	}
}
