package whole_test

import (
	"math/big"
	"strings"
	"testing"

	"facetroom/api"
	"facetroom/whole"
)

// reads holds what Text and Parse answer against one another.
func reads(t *testing.T, a api.Int, s string) {
	t.Helper()
	if got, e := whole.Text(a); got != s || e != api.OK {
		t.Errorf("Text %s: %q (%d bytes), error %d; want %q (%d bytes)", told(a), cut(got), len(got), int(e), cut(s), len(s))
	}
	if got, e := whole.Parse(s); !same(got, a) || e != api.OK {
		t.Errorf("Parse %q (%d bytes): %s, error %d", cut(s), len(s), told(got), int(e))
	}
}

func noNumber(t *testing.T, s string, want api.Errno) {
	t.Helper()
	if a, e := whole.Parse(s); !same(a, api.Int{}) || e != want {
		t.Errorf("Parse %q (%d bytes): %s, error %d; want error %d", cut(s), len(s), told(a), int(e), int(want))
	}
}

// The table of the chapter's examples, of texts.
func TestTextExamples(t *testing.T) {
	reads(t, minus(api.Nat{12}), "-12")
	noNumber(t, "-0", api.ErrBad)
}

// P5.4
func TestTexts(t *testing.T) {
	for _, a := range numbers() {
		reads(t, a, value(a).String())
	}
	for n := int64(-1200); n <= 1200; n++ {
		v := big.NewInt(n)
		reads(t, number(v), v.String())
	}
	for n := range 250 {
		for d := int64(-1); d <= 1; d++ {
			for _, b := range []int64{2, 10} {
				v := new(big.Int).Add(power(b, n), big.NewInt(d))
				reads(t, number(v), v.String())
				v.Neg(v)
				reads(t, number(v), v.String())
			}
		}
	}
	for _, n := range ints() {
		v := big.NewInt(int64(n))
		reads(t, whole.Of(n), v.String())
	}
}

// P5.4: just as many digits as may be, and one more, of both signs: a - is no digit.
func TestMostDigits(t *testing.T) {
	least := strings.Repeat("0", api.MaxDigits-1)
	for _, sign := range []string{"", "-"} {
		for _, s := range []string{strings.Repeat("9", api.MaxDigits), "1" + least, "8" + least[1:] + "3"} {
			a := sureOf(t)(whole.Parse(sign + s))
			if got := value(a).String(); got != sign+s {
				t.Errorf("Parse %s: %s", cut(sign+s), cut(got))
			}
			reads(t, a, sign+s)
		}
	}
	most := power(10, api.MaxDigits)
	for _, v := range []*big.Int{most, new(big.Int).Add(most, big.NewInt(1)), new(big.Int).Mul(most, most)} {
		for _, a := range []api.Int{number(v), number(new(big.Int).Neg(v))} {
			if s, e := whole.Text(a); s != "" || e != api.ErrMany {
				t.Errorf("Text %s: %q, error %d", told(a), cut(s), int(e))
			}
		}
	}
}

// P5.4: bytes that are too many, whatever they are, but a nought behind a - ahead of that.
func TestMostBytes(t *testing.T) {
	for _, sign := range []string{"", "-"} {
		for _, s := range []string{"1", "9", "x", " ", "-", "\x00"} {
			noNumber(t, sign+strings.Repeat("7", api.MaxDigits)+s, api.ErrText)
			noNumber(t, sign+strings.Repeat("7", api.MaxDigits-1)+s+"77", api.ErrText)
			noNumber(t, sign+strings.Repeat("7", 100000)+s, api.ErrText)
		}
		noNumber(t, sign+strings.Repeat("é", api.MaxDigits/2), api.ErrBad)
		noNumber(t, sign+strings.Repeat("é", api.MaxDigits/2+1), api.ErrText) // bytes are counted, not what they write
	}
	noNumber(t, strings.Repeat("-", api.MaxDigits+1), api.ErrBad)
	noNumber(t, strings.Repeat("-", api.MaxDigits+2), api.ErrText)
	noNumber(t, strings.Repeat("0", api.MaxDigits), api.ErrBad)
	noNumber(t, strings.Repeat("0", api.MaxDigits+1), api.ErrText)
	for _, n := range []int{api.MaxDigits - 1, api.MaxDigits, api.MaxDigits + 1, 100000} {
		noNumber(t, "-"+strings.Repeat("0", n), api.ErrBad)
		noNumber(t, "-0"+strings.Repeat("7", n), api.ErrBad)
		noNumber(t, "-0"+strings.Repeat("x", n), api.ErrBad)
	}
}

// P5.4: texts that are nearly numbers.
func TestNearlyNumbers(t *testing.T) {
	for _, s := range []string{
		"", "-", "--", "---", "+", "-+", "+-", "-0", "--0", "-00", "-01", "-007", "00", "01", "007", "-0-", "-0x1", "--1", "---1", "+1", "-+1", "+-1", "+0",
		"1-", "-1-", "1-1", "12-", "-1-2", "- 1", " -1", "-1 ", " 1", "1 ", "1 2", " ", "- ", " -", "-\n", "-\x00", "-1\n", "\n-1",
		"0x10", "-0x10", "-x", "-a1", "1_000", "-1_000", "1e5", "-1e5", "1.0", "-1.5", "-.5", "1,000", "(1)", "−1", "–1", "\u00ad1", "-١", "-１", "NaN", "-Inf", "nil",
	} {
		noNumber(t, s, api.ErrBad)
	}
}

// P5.4: no nought may stand ahead, but 0 itself, which is not below 0.
func TestNoughtsAhead(t *testing.T) {
	reads(t, api.Int{}, "0")
	for _, abs := range sizes()[1:] {
		s := value(plus(abs)).String()
		for n := 1; n < 45; n++ {
			noNumber(t, strings.Repeat("0", n)+s, api.ErrBad)
			noNumber(t, "-"+strings.Repeat("0", n)+s, api.ErrBad)
		}
	}
}

// P5.4: every byte that is no digit, in each place of a text, between its digits, and in the place of one.
func TestOtherBytes(t *testing.T) {
	for _, s := range []string{"1", "-1", "42", "-42", "1234567890123456789", "-12345678901234567890", "-98765432109876543210987654321098765432109"} {
		for b := range 256 {
			c := byte(b)
			if c >= '0' && c <= '9' {
				continue
			}
			wrong := string([]byte{c})
			for place := range len(s) + 1 {
				if made := s[:place] + wrong + s[place:]; c != '-' || place > 0 || s[0] == '-' { // but a - that makes it a number below 0
					noNumber(t, made, api.ErrBad)
				}
				if place < len(s) && (c != '-' || place > 0 || len(s) == 1) {
					noNumber(t, s[:place]+wrong+s[place+1:], api.ErrBad)
				}
			}
		}
	}
}
