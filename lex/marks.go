package lex

import "strings"

// mark tells whether a character is one of some.
type mark func(c rune) bool

// marks are what tokens are of, and what stands between them: part is what words and numbers go on with.
type marks struct{ blank, digit, part mark }

func allMarks() marks {
	digit := between('0', '9')
	letter := either(between('a', 'z'), between('A', 'Z'), among("_"))
	return marks{blank: among(" \t\n\r"), digit: digit, part: either(letter, digit)}
}

func between(low, high rune) mark {
	return func(c rune) bool { return low <= c && c <= high }
}

func among(l string) mark {
	return func(c rune) bool { return strings.ContainsRune(l, c) }
}

func either(l ...mark) mark {
	return func(c rune) bool {
		for _, is := range l {
			if is(c) {
				return true
			}
		}
		return false
	}
}

// ahead is as much of src's beginning as is of such characters.
func ahead(src string, is mark) string {
	for i, c := range src {
		if !is(c) {
			return src[:i]
		}
	}
	return src
}
