package lex_test

import (
	"strings"
	"testing"

	"facetroom/api"
)

// P8.1: texts of as many bytes as may be, and of one more; of those it does not matter what they have.
func TestMostBytes(t *testing.T) {
	answers(t, "", answer{})
	for _, piece := range []string{" ", "\n", "\r\n", " \t", "x ", "(", "<=", "1 ", "ab1\n", "abcdefghijklmno ", "9223372036854775807,x+12= !0;(ab)"} {
		for _, more := range []int{-1, 0, 1, 2, 1000} {
			long := api.MaxText + more
			src := strings.Repeat(piece, long/len(piece)+1)[:long]
			reckons(t, src)
			if more > 0 {
				fails(t, src, 0, api.ErrText)
			}
		}
	}
	for _, blank := range []string{" ", "\t", "\n", "\r"} {
		answers(t, strings.Repeat(blank, 4096), answer{})
		fails(t, strings.Repeat(blank, 4097), 0, api.ErrText)
	}
	room := strings.Repeat(" ", 4095)
	answers(t, room+"x", answer{l: []api.Token{{Kind: api.TokWord, Text: "x", At: 4095}}})
	answers(t, "x"+room, answer{l: []api.Token{{Kind: api.TokWord, Text: "x"}}})
	fails(t, room+"#", 4095, api.ErrSign)
	if l := ask(strings.Repeat("(", 4096)).l; len(l) != 4096 {
		t.Errorf("4096 signs: %d tokens", len(l))
	}
}

// P8.1: bytes that are too many are told ahead of all else; they are bytes, not characters.
func TestTooLongAndWrong(t *testing.T) {
	room := strings.Repeat(" ", 4096)
	for _, s := range []string{"#", "&", "07", "1x", "9223372036854775808", "abcdefghijklmnopq", "\x00", "\xff"} {
		for _, src := range []string{s + room, room + s, s + room + s, strings.Repeat(s, 4097), " " + s + room} {
			fails(t, src, 0, api.ErrText)
		}
	}
	fails(t, strings.Repeat("é", 2048), 0, api.ErrSign)
	fails(t, strings.Repeat("é", 2048)+" ", 0, api.ErrText)
	fails(t, strings.Repeat("é", 2049), 0, api.ErrText)
	fails(t, strings.Repeat(" ", 4094)+"é", 4094, api.ErrSign)
	fails(t, strings.Repeat(" ", 4095)+"é", 0, api.ErrText)
}

// noToken are texts with which no token begins: each such byte, characters, and pieces of them.
func noToken() []string {
	l := []string{"é", "€", "😀", "\u00a0", "\u2028", "\u0085", "\ufeff", "\ufffd", "\u212a", "\u041a", "\u017f", "\uff41", "\uff13", "\u0663", "²", "ª", "\uff0d", "\uff1d", "&", "|", "& &", "| |", "&|", "\xc3(", "\xe2\x82", "\xf0\x9f\x98", "\xed\xa0\x80", "\xc0\xaf", "\xff\xfe"}
	for c := range 256 {
		b := string([]byte{byte(c)})
		if !strings.Contains("abcdefghijklmnopqrstuvwxyzABCDEFGHIJKLMNOPQRSTUVWXYZ_0123456789 \t\n\r<>=!(){}[];,+-*/%&|", b) {
			l = append(l, b)
		}
	}
	return l
}

// P8.1: with a byte with which no token begins, wherever it stands.
func TestWrongSigns(t *testing.T) {
	if n := len(noToken()); n != 29+256-63-4-19 { // of bytes all but letters and digits, blanks, and those of signs
		t.Fatalf("%d texts", n)
	}
	for _, s := range noToken() {
		fails(t, s, 0, api.ErrSign)
		for _, first := range []string{" ", "\n\t", "x", "if", "12", "0", "<", "<=", "(", ") ;", "x=y ", "&&", "||", "abcdefghijklmnop", "9223372036854775807", strings.Repeat("( ", 2000)} {
			for _, behind := range []string{"", " ", "x", "1", "=", " y = 07", "#"} {
				fails(t, first+s+behind, len(first), api.ErrSign)
			}
		}
		for _, behind := range []string{" ", "x", "1", "==", "\x00", "&&"} {
			if s+behind != "&&&" {
				fails(t, s+behind, 0, api.ErrSign)
			}
		}
	}
}

// P8.1: numbers to the greatest, and beyond, with noughts ahead, and with letters right behind.
func TestNumbers(t *testing.T) {
	for _, s := range []string{"0", "1", "9", "10", "1000000000000000000", "9223372036854775799", "9223372036854775800", "9223372036854775806", "9223372036854775807", "8999999999999999999", "999999999999999999"} {
		has(t, s, s)
		has(t, "-"+s, "-", s)
		has(t, "x="+s+";", "x", "=", s, ";")
		has(t, s+"+"+s, s, "+", s)
		for _, behind := range []string{"a", "x", "z", "A", "F", "Z", "_", "_1", "e5", "x1", "L", "if", "while"} {
			fails(t, s+behind, 0, api.ErrNumber)
			fails(t, "y "+s+behind+" z", 2, api.ErrNumber)
			has(t, s+" "+behind, s, behind)
		}
		for _, nought := range []string{"0", "00", "000000000000000000000", strings.Repeat("0", 4000)} {
			fails(t, nought+s, 0, api.ErrNumber)
			fails(t, "x="+nought+s, 2, api.ErrNumber)
		}
	}
	for _, s := range []string{"00", "01", "07", "000", "010", "00x", "0x", "0_", "0b1", "0o7", "0x1f", "1_000", "09223372036854775807", "9223372036854775808", "9223372036854775810", "9223372036854776000", "9300000000000000000", "9999999999999999999", "10000000000000000000", "18446744073709551615", "18446744073709551616", "18446744073709551617", "36893488147419103233", "340282366920938463463374607431768211456", "123456789012345678901234567890x", "9223372036854775808x"} {
		fails(t, s, 0, api.ErrNumber)
		fails(t, " "+s, 1, api.ErrNumber)
		fails(t, "-"+s+";", 1, api.ErrNumber)
		fails(t, "a1<"+s+" #", 3, api.ErrNumber)
	}
	for _, digit := range []string{"0", "1", "5", "9"} {
		for _, long := range []int{20, 21, 38, 39, 40, 1000, 4096} {
			fails(t, strings.Repeat(digit, long), 0, api.ErrNumber)
		}
		fails(t, strings.Repeat(digit, 4097), 0, api.ErrText)
	}
	fails(t, "1"+strings.Repeat("0", 4095), 0, api.ErrNumber)
	has(t, "0 0", "0", "0")
	has(t, "1,5", "1", ",", "5")
	fails(t, "1.5", 1, api.ErrSign)
	fails(t, "1é", 1, api.ErrSign)
}

// P8.1: words of as many bytes as may be, and of one more.
func TestLongWords(t *testing.T) {
	for _, piece := range []string{"a", "z", "A", "Z", "_", "a1", "x_", "if", "while", "Q9_"} {
		for long := 1; long < 60; long++ {
			s := strings.Repeat(piece, long)[:long]
			if long <= 16 {
				has(t, s, s)
				has(t, "1+"+s+"*2", "1", "+", s, "*", "2")
				continue
			}
			fails(t, s, 0, api.ErrLong)
			fails(t, "1+"+s+"*2", 2, api.ErrLong)
			fails(t, s+"#", 0, api.ErrLong)
		}
		fails(t, strings.Repeat(piece, 4096)[:4096], 0, api.ErrLong)
		fails(t, strings.Repeat(piece, 4097)[:4097], 0, api.ErrText)
	}
	fails(t, "x abcdefghijklmno10", 2, api.ErrLong)
	has(t, "x abcdefghijklmn10", "x", "abcdefghijklmn10")
	fails(t, "abcdefghijklmnopé", 16, api.ErrSign)
	has(t, "abcdefghijklmnop(abcdefghijklmnop", "abcdefghijklmnop", "(", "abcdefghijklmnop")
}

// P8.1: of two things that are wrong the first one is told, whichever they are.
func TestFirstWrong(t *testing.T) {
	wrongs := map[string]api.Errno{"#": api.ErrSign, "\x80": api.ErrSign, "&": api.ErrSign, "|": api.ErrSign, "é": api.ErrSign, "07": api.ErrNumber, "9223372036854775808": api.ErrNumber, "1x": api.ErrNumber, "00_": api.ErrNumber, "abcdefghijklmnopq": api.ErrLong, "if_______________": api.ErrLong}
	for a, e := range wrongs {
		for b := range wrongs {
			for _, between := range []string{" ", "\n", ";", " x ", "(1)", " while "} {
				fails(t, a+between+b, 0, e)
				fails(t, "x = 1;\n"+a+between+b, 7, e)
			}
		}
	}
	fails(t, "07#", 0, api.ErrNumber)
	fails(t, "#07", 0, api.ErrSign)
	fails(t, "7#7x", 1, api.ErrSign)
	fails(t, "abcdefghijklmnopq#", 0, api.ErrLong)
	fails(t, "abcdefghijklmnop#07", 16, api.ErrSign)
	fails(t, "1abcdefghijklmnopqrstuv", 0, api.ErrNumber)
}

// R1, P8.1: any bytes at all, beside another's reckoning.
func TestAnyBytes(t *testing.T) {
	x := uint64(1)
	pieces := append(someTokens(), someBlanks()...)
	for range 3000 {
		b := make([]byte, shuffled(&x, 40))
		for i := range b {
			b[i] = byte(shuffled(&x, 256))
		}
		reckons(t, string(b))
		var src strings.Builder
		for range shuffled(&x, 30) {
			src.WriteString(oneOf(&x, pieces))
		}
		reckons(t, src.String())
		reckons(t, src.String()+string(b)+src.String())
	}
}
