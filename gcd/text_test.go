package gcd_test

import (
	"slices"
	"strings"
	"testing"

	"facetroom/api"
	"facetroom/gcd"
)

// The table of the chapter's examples, of texts.
func TestTextExamples(t *testing.T) {
	reads(t, nil, "0")
	reads(t, api.Nat{0, 1}, "18446744073709551616")
	noNumber(t, "007", api.ErrBad)
	noNumber(t, "-1", api.ErrBad)
}

// reads holds what Text and Parse answer against one another.
func reads(t *testing.T, a api.Nat, s string) {
	t.Helper()
	if got, e := gcd.Text(a); got != s || e != api.OK {
		t.Errorf("Text %v (%d limbs): %q (%d bytes), error %d; want %q (%d bytes)", told(a), len(a), cut(got), len(got), int(e), cut(s), len(s))
	}
	if got, e := gcd.Parse(s); !slices.Equal(got, a) || e != api.OK {
		t.Errorf("Parse %q (%d bytes): %v, error %d; want %v", cut(s), len(s), told(got), int(e), told(a))
	}
}

// readsAs does so by another's reckoning.
func readsAs(t *testing.T, a api.Nat) {
	t.Helper()
	reads(t, a, value(a).String())
}

func noNumber(t *testing.T, s string, want api.Errno) {
	t.Helper()
	if a, e := gcd.Parse(s); len(a) != 0 || e != want {
		t.Errorf("Parse %q (%d bytes): %v, error %d; want error %d", cut(s), len(s), told(a), int(e), int(want))
	}
}

func noText(t *testing.T, a api.Nat, want api.Errno) {
	t.Helper()
	if s, e := gcd.Text(a); s != "" || e != want {
		t.Errorf("Text %v (%d limbs): %q, error %d; want error %d", told(a), len(a), cut(s), int(e), int(want))
	}
}

// P4.2
func TestTexts(t *testing.T) {
	reads(t, api.Nat{}, "0")
	for _, a := range many() {
		readsAs(t, a)
	}
	for n := range uint64(3000) {
		readsAs(t, api.Nat{n + 1})
	}
	for n := 1; n <= 212; n += 1 + n/5 {
		for _, a := range sized(n) {
			readsAs(t, a)
		}
	}
}

// P4.2: powers of 2, and their neighbours.
func TestTextsOfTwos(t *testing.T) {
	for n := 1; n < 600; n++ {
		for d := int64(-1); d <= 1; d++ {
			readsAs(t, plus(power(2, n), d))
		}
	}
	reads(t, api.Nat{top - 1}, "18446744073709551614")
	reads(t, api.Nat{top}, "18446744073709551615")
	reads(t, api.Nat{1, 1}, "18446744073709551617")
}

// P4.2: powers of 10, and their neighbours, up to the greatest number that has a text.
func TestTextsOfTens(t *testing.T) {
	places := []int{1000, 2047, 2048, 2049, 4000, 4074, 4075, 4083, 4084, 4085, 4086, 4094, 4095}
	for n := range 200 {
		places = append(places, n)
	}
	for _, n := range places {
		a, noughts := power(10, n), strings.Repeat("0", n)
		reads(t, a, "1"+noughts)
		if n > 0 {
			reads(t, plus(a, -1), strings.Repeat("9", n))
			reads(t, plus(a, 1), "1"+noughts[1:]+"1")
			reads(t, plus(product(a, api.Nat{7}), 3), "7"+noughts[1:]+"3")
		}
	}
	reads(t, plus(power(10, api.MaxDigits), -1), strings.Repeat("9", api.MaxDigits))
}

// P4.2: noughts within, wherever they begin and end.
func TestNoughtsWithin(t *testing.T) {
	const digits = "73918264555736281919374655647382915"
	for n := 20; n < 100; n += 3 {
		all := strings.Repeat(digits, 3)[:n]
		for from := 1; from < n; from += 2 {
			for to := from + 1; to <= n; to += 5 {
				s := all[:from] + strings.Repeat("0", to-from) + all[to:]
				a := sureOf(t)(gcd.Parse(s))
				if got := value(a).String(); got != s {
					t.Errorf("Parse %s: %s", s, got)
				}
				reads(t, a, s)
			}
		}
	}
}

// P4.2: texts of each length, of digits of all kinds.
func TestLengths(t *testing.T) {
	const digits = "1029384756665748392010000000000000000000000000000000000009"
	all := strings.Repeat(digits, 1+api.MaxDigits/len(digits))
	for n := 1; n <= api.MaxDigits; n += 1 + n/30 {
		s := all[:n]
		a := sureOf(t)(gcd.Parse(s))
		if got := value(a).String(); got != s {
			t.Errorf("Parse %s of %d bytes: %s", cut(s), n, cut(got))
		}
		reads(t, a, s)
	}
}

// P4.2: just as many digits as may be, and one more.
func TestMostDigits(t *testing.T) {
	most := plus(power(10, api.MaxDigits), -1)
	readsAs(t, most)
	readsAs(t, plus(most, -1))
	readsAs(t, power(10, api.MaxDigits-1))
	reads(t, product(power(10, api.MaxDigits-1), api.Nat{8}), "8"+strings.Repeat("0", api.MaxDigits-1))
	for _, a := range []api.Nat{plus(most, 1), plus(most, 2), product(most, api.Nat{2}), product(most, api.Nat{10}), product(most, most)} {
		noText(t, a, api.ErrMany)
	}
	for n := 214; n < 240; n++ {
		for _, a := range sized(n) {
			noText(t, a, api.ErrMany)
		}
	}
	for _, n := range []int{213, 500, 1024, 1025, 200000} {
		noText(t, full(n), api.ErrMany)
	}
}

// P4.2: as many bytes as may be, and more.
func TestMostBytes(t *testing.T) {
	for _, d := range []string{"1", "5", "9"} {
		s := strings.Repeat(d, api.MaxDigits)
		a := sureOf(t)(gcd.Parse(s))
		if got := value(a).String(); got != s {
			t.Errorf("Parse %s: %s", cut(s), cut(got))
		}
		for _, more := range []string{"0", "1", " ", "x", "\x00", "\n", strings.Repeat("7", 100000)} {
			noNumber(t, s+more, api.ErrText)
			noNumber(t, more+s, api.ErrText)
		}
	}
	noNumber(t, strings.Repeat("0", api.MaxDigits), api.ErrBad)
	noNumber(t, strings.Repeat("0", api.MaxDigits+1), api.ErrText)
	noNumber(t, strings.Repeat("x", api.MaxDigits), api.ErrBad)
	noNumber(t, strings.Repeat("x", api.MaxDigits+1), api.ErrText)
	noNumber(t, strings.Repeat("é", api.MaxDigits/2), api.ErrBad)
	noNumber(t, strings.Repeat("é", api.MaxDigits/2+1), api.ErrText) // bytes are counted, not what they write
}

// P4.2: a number that may not be has no text, however long it is.
func TestTextOfBad(t *testing.T) {
	for _, x := range append(bad(), append(full(200000), 0)) {
		noText(t, x, api.ErrBad)
	}
}

// P4.2: every byte that is no digit, ahead of, within and behind texts, and in the place of each digit.
func TestOtherBytes(t *testing.T) {
	for _, s := range []string{"", "1", "42", "1234567890123456789", "12345678901234567890", "98765432109876543210987654321098765432109"} {
		for b := range 256 {
			if c := byte(b); c < '0' || c > '9' {
				eachPlace(t, s, string([]byte{c}))
			}
		}
		for _, c := range []string{"١", "１", "²", "½", "–", "é", "\u00a0", "\ufeff", "\ufffd", "\xff\xfe", "\xd9", "0x", "1e", "_", "__", "+-"} {
			eachPlace(t, s, c)
		}
	}
	long := strings.Repeat("8", api.MaxDigits)
	for place := 0; place < len(long); place += 101 {
		for _, c := range []string{" ", "-", "+", "_", ".", "/", ":", "a", "\x00", "\xff"} {
			noNumber(t, long[:place]+c+long[place+1:], api.ErrBad)
		}
	}
	for _, s := range []string{"", " ", "-", "+", "-0", "+0", "0-", "0x10", "0b1", "0o7", "1_000", "1e5", "1.0", "1,000", "NaN", "Inf", "nil"} {
		noNumber(t, s, api.ErrBad)
	}
}

// eachPlace puts what is no digit in each place of a text, between its digits, and then in the place of one.
func eachPlace(t *testing.T, s, wrong string) {
	t.Helper()
	for place := range len(s) + 1 {
		noNumber(t, s[:place]+wrong+s[place:], api.ErrBad)
		if place < len(s) {
			noNumber(t, s[:place]+wrong+s[place+1:], api.ErrBad)
		}
	}
}

// P4.2: no nought may stand ahead, but 0 itself.
func TestNoughtsAhead(t *testing.T) {
	reads(t, nil, "0")
	for _, a := range append(many(), mixed(200)) {
		s := value(a).String()
		for n := 1; n < 45; n++ {
			noNumber(t, strings.Repeat("0", n)+s, api.ErrBad)
		}
	}
}
